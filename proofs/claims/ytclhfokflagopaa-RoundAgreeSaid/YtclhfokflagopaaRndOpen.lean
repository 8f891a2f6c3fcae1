/-
  Several ways to agreement at the beginning. No condition.
-/
import Derived.Test.YtclhfokflagopaaRndTake
import Derived.Test.YtclhfokflagopaaRndMAgr
namespace Go.Proofs.Ytclhfokflagopaa
open Go Go.RowKit Go.Maps

/-- One at the beginning. -/
structure FreshR (N : Nat) (q : Int) (s : RdS) : Prop where
  voters : s.voters = N
  me : s.me = q
  votes : s.votes = noVotes
  step : s.step = 3
  round : s.round = -1
  lockR : s.lockR = 0
theorem FreshR.know {N : Nat} {q : Int} {s : RdS} (h : FreshR N q s) (id : List UInt8) : FreshR N q (settleS (remS s id)) := by
  have h2 : FreshR N q (remS s id) := by
    unfold remS
    split
    · exact ⟨h.voters, h.me, h.votes, h.step, h.round, h.lockR⟩
    · exact h
  rw [(settle_over h2.step).1]
  exact h2
theorem FreshR.ag {N : Nat} {q : Int} {s : RdS} (h : FreshR N q s) : AgB N q s.votes s [] := by
  have hv := h.votes
  have hno : ∀ {r k : Int} {x : List UInt8}, ¬ s.votes r k q = some x := fun {r k x} hx => by
    rw [hv] at hx
    cases hx
  exact ⟨h.voters, h.me, ⟨fun r k _ => (by rw [hv]; rfl), fun e => (by have := h.step; omega), fun e => (by have := h.step; omega)⟩, fun r k x hx => absurd hx hno, fun _ _ _ _ => rfl, fun _ _ _ hx => hx, fun r x hx => absurd hx hno, fun r x hx => absurd hx hno, fun hp => (by have := h.lockR; omega), fun r x r' y hx => absurd hx hno, fun a ha => (by cases ha)⟩
theorem new_fresh (v : Nat) (me hh : Int) : FreshR v me (newS v me hh) := ⟨rfl, rfl, rfl, rfl, rfl, rfl⟩
theorem info_ptr : (Try.prog.info? 62).map (fun i => (i.zero, i.size, i.bytes)) = some (some (.pointer none), 1, 8) := by kernel_rfl
/-- An append of one pointer. -/
theorem app_ptr {B : Nat} {w : World} (hB : B ≤ w.heap.size) {v : Value} {n : Nat} {xs : List Value} (hown : w.ownsRow B 62 1 v n xs) (x : Value) (hx : x.oneCell' = true) {g0 : Nat} (hg0 : Blk w g0 62 #[x]) (hn : n ≤ 1000) :
    ∃ v' w', (Builtin.append_ #[79, 79] 79 #[v, .slice (some ⟨g0, 0, none⟩) 1 1]).run Try.prog w = .ok v' w' ∧
      w'.ownsRow B 62 1 v' (n + 1) (xs ++ [x]) ∧ w.grownBy w' v.ownBlock ∧ (v'.ownBlock = v.ownBlock ∨ v'.ownBlock = some w.heap.size) := by
  obtain ⟨i0, hi, hz0, hz1, hz2⟩ := info_parts info_ptr
  obtain ⟨v', w', hrun, hown', hgr, _, hbl⟩ := run_append_own_at (P := Try.prog) w B 79 79 62 i0 (.pointer none) 1 8 Try.underlying79 hi hz0 hz1 hz2 rfl (by omega) v n xs hown ⟨g0, 0, none⟩ 1 1 [x] rfl
    (fun j u hu => by
      rcases j with _ | j
      · cases hu
        rw [show (⟨g0, 0, none⟩ : Addr).add 0 = ⟨g0, 0, none⟩ from rfl, hg0.cell]; rfl
      · cases hu) (fun u hu => (List.mem_singleton.1 hu) ▸ hx) (by unfold maxLen; omega) (by omega) hB
  exact ⟨v', w', hrun, hown', hgr, hbl⟩
def kidB (u : UInt8) : List UInt8 := u :: List.replicate 31 0
theorem kidB_ok (u : UInt8) : IdOk (kidB u) := by unfold IdOk kidB; simp
set_option maxRecDepth 100000 in
theorem kidB_built (u : UInt8) : Try.prog.built 24 [(0, .int .u8 (u.toNat : Int))] = some (idC (kidB u)) := by kernel_rfl
theorem info_idH : (Try.prog.info? 24).map (fun i => (i.zero, i.size, i.bytes)) = some (some (.agg (Array.replicate 32 (.int .u8 0))), 32, 32) := by kernel_rfl
theorem run_mk_idsH (n : Nat) (hn : n ≤ 1000) (w : World) : (Instr.makeSlice 49 (.int .i64 (n : Int)) (.int .i64 (n : Int))).run Try.prog w = .ok (.slice (some ⟨w.heap.size, 0, none⟩) n n) (w.alloc (.cells (arr (32 * n) fun _ => .int .u8 0) 24)) := by
  obtain ⟨i0, hi, hz0, hz1, hz2⟩ := info_parts info_idH
  have h := run_make (P := Try.prog) w 49 24 i0 (.agg (Array.replicate 32 (.int .u8 0))) Try.underlying49 hi hz0 .i64 .i64 n n (by omega) (Int.le_refl _) (by rw [hz2]; omega) (by omega)
  simp only [Int.toNat_natCast] at h
  rw [h]
  have e : madeCells (Value.agg (Array.replicate 32 (.int .u8 0))).cells (n * i0.size) = arr (32 * n) fun _ => .int .u8 0 := by
    rw [hz1, Nat.mul_comm]
    refine Array.ext_getElem? fun i => ?_
    rw [arr_get]
    by_cases hi : i < 32 * n
    · rw [if_pos hi]
      have hm : i % 32 < 32 := Nat.mod_lt _ (by omega)
      rw [Array.getElem?_eq_getElem (by simp [size_madeCells]; exact hi)]
      simp [madeCells, Value.cells, hm]
    · rw [if_neg hi, Array.getElem?_eq_none (by simp [size_madeCells]; omega)]
  rw [e]
theorem ds_zero (n : Nat) : arr (32 * n) (fun _ => Value.int .u8 0) = arr (32 * n) (dsF (List.replicate n zeroId)) := by
  refine Array.ext_getElem? fun j => ?_
  rw [arr_get, arr_get]
  by_cases hj : j < 32 * n
  · rw [if_pos hj, if_pos hj]
    have hok : ∀ x ∈ List.replicate n zeroId, IdOk x := fun x hx => by rw [(List.mem_replicate.1 hx).2]; exact zeroId_ok
    have hq : j / 32 < n := by omega
    have hr : j % 32 < 32 := Nat.mod_lt _ (by omega)
    have hd : 32 * (j / 32) + j % 32 = j := by omega
    have hg : (List.replicate n zeroId)[j / 32]? = some zeroId := by rw [List.getElem?_replicate, if_pos hq]
    have h2 := idsC_get hok hg hr
    rw [hd] at h2
    unfold dsF
    rw [List.getD_eq_getElem?_getD, h2]
    unfold idL zeroId
    rw [List.getElem?_map, List.getElem?_replicate, if_pos hr]
    rfl
  · rw [if_neg hj, if_neg hj]
def ptrsOf (l : List RB) : List Value := l.map fun x => .pointer (some ⟨x.B, 0, none⟩)
/-- On the way to the beginning. -/
structure OpenS (b : Nat) (W : World) (N H Hb : Nat) (va : Value) (ps : List Value) (l : List RB) : Prop where
  hall : HallAt b W l
  blk : Blk W Hb 82 (arr 4 (haF va (.slice none 0 0) (.slice none 0 0) H))
  own : W.ownsRow b 62 1 va ps.length ps
  outH : Out l Hb
  outA : ∀ g, va.ownBlock = some g → Out l g
  low : b ≤ Hb
  fresh : ∀ (q : Nat) (x : RB), l[q]? = some x → FreshR N q x.s
theorem out_add {l : List RB} {g : Nat} (h : Out l g) {x : RB} (hx : ¬ x.has g) : Out (l ++ [x]) g := fun i y hy => by
  by_cases hi : i < l.length
  · rw [List.getElem?_append_left hi] at hy
    exact h i y hy
  · rw [List.getElem?_append_right (by omega)] at hy
    by_cases he : i = l.length
    · rw [he, Nat.sub_self] at hy
      obtain rfl := Option.some.inj hy
      exact hx
    · rw [List.getElem?_eq_none (by simp; omega)] at hy
      cases hy
theorem OpenS.new {b : Nat} {W W' : World} {N H Hb : Nat} {va : Value} {ps : List Value} {l : List RB} (k : OpenS b W N H Hb va ps l) (hw : b ≤ W.heap.size) (hb : Below W.heap.size W W') {B C M n : Nat} {s : RdS} (hr : RoundAt W' B C M n (.slice none 0 0) s) (h1 : W.heap.size ≤ B) (h2 : W.heap.size ≤ C) (h3 : W.heap.size ≤ M) (hf : FreshR N l.length s) :
    OpenS b W' N H Hb va ps (l ++ [⟨B, C, M, n, .slice none 0 0, s⟩]) := by
  have hno : ∀ g, g < W.heap.size → ¬ (RB.mk B C M n (.slice none 0 0) s).has g := fun g hg hh => by
    rcases hh with e | e | e | e
    · have e' : g = B := e
      omega
    · have e' : g = C := e
      omega
    · have e' : g = M := e
      omega
    · cases e
  refine ⟨k.hall.add hb hw hr h1 h2 h3, k.blk.below hb k.blk.lt, rowV_kept k.own hb, out_add k.outH (hno _ k.blk.lt), fun g hg => out_add (k.outA g hg) (hno _ (k.own.lt g hg).2), k.low, fun q x hx => ?_⟩
  by_cases hi : q < l.length
  · rw [List.getElem?_append_left hi] at hx
    exact k.fresh q x hx
  · rw [List.getElem?_append_right (by omega)] at hx
    by_cases he : q = l.length
    · rw [he, Nat.sub_self] at hx
      obtain rfl := Option.some.inj hx
      rw [he]
      exact hf
    · rw [List.getElem?_eq_none (by simp; omega)] at hx
      cases hx
theorem OpenS.know {b : Nat} {W w' : World} {N H Hb : Nat} {va : Value} {ps : List Value} {l : List RB} (k : OpenS b W N H Hb va ps l) (hw : b ≤ W.heap.size) {d : Nat} {x : RB} (hx : l[d]? = some x) {e : Ending} {id : List UInt8} {acts : List ActS} (hd : Done W w' e x.B x.C x.M x.n x.kv (settleS (remS x.s id)) acts) :
    ∃ v kv', e = .returned v ∧ OpenS b w' N H Hb va ps (l.set d ⟨x.B, x.C, x.M, x.n + 202, kv', settleS (remS x.s id)⟩) ∧ Below b W w' := by
  obtain ⟨kv', ⟨v, h1, _⟩, h3, h4⟩ := hd
  obtain ⟨q1, q2, q3⟩ := k.hall.chg hw hx h3 h4
  refine ⟨v, kv', h1, ⟨q1, k.blk.eqAt (q2.block _ k.blk.lt k.outH), row_eq k.own fun g hg => q2.block g (k.own.lt g hg).2 (k.outA g hg), q3 _ k.blk.lt k.outH, fun g hg => q3 g (k.own.lt g hg).2 (k.outA g hg), k.low, fun q y hy => ?_⟩, q2.os, q2.tape, q2.output, q2.size, fun g hg => q2.block g (by omega) fun j y hy hh => ?_⟩
  · rcases set_get hy with ⟨rfl, rfl⟩ | ⟨_, hy⟩
    · exact (k.fresh q x hx).know id
    · exact k.fresh q y hy
  · have := k.hall.low j y hy g hh
    omega
theorem ha_new (va vm vd : Value) (H : Nat) : #[va, .int .i64 (H : Int), vm, vd] = arr 4 (haF va vm vd H) := by
  refine Array.ext_getElem? fun i => ?_
  rw [arr_get]
  by_cases hi : i < 4
  · rw [if_pos hi]
    have : i = 0 ∨ i = 1 ∨ i = 2 ∨ i = 3 := by omega
    rcases this with rfl | rfl | rfl | rfl <;> rfl
  · rw [if_neg hi, Array.getElem?_eq_none (by simp; omega)]
theorem ha_put0 (va vm vd v : Value) (H : Nat) : arr 4 (putW (haF va vm vd H) 0 [v]) = arr 4 (haF v vm vd H) := by
  refine Array.ext_getElem? fun i => ?_
  rw [arr_get, arr_get]
  by_cases hi : i < 4
  · rw [if_pos hi, if_pos hi]
    have : i = 0 ∨ i = 1 ∨ i = 2 ∨ i = 3 := by omega
    rcases this with rfl | rfl | rfl | rfl <;> rfl
  · rw [if_neg hi, if_neg hi]
theorem ha_put3 (va vm vd v : Value) (H : Nat) : arr 4 (putW (haF va vm vd H) 3 [v]) = arr 4 (haF va vm v H) := by
  refine Array.ext_getElem? fun i => ?_
  rw [arr_get, arr_get]
  by_cases hi : i < 4
  · rw [if_pos hi, if_pos hi]
    have : i = 0 ∨ i = 1 ∨ i = 2 ∨ i = 3 := by omega
    rcases this with rfl | rfl | rfl | rfl <;> rfl
  · rw [if_neg hi, if_neg hi]
/-- A pointer more. -/
theorem OpenS.push {b : Nat} {W W5 W6 : World} {N H Hb : Nat} {va v5 : Value} {ps : List Value} {p : Value} {l : List RB} (k : OpenS b W N H Hb va ps l) (hw : b ≤ W.heap.size) (hg5 : W.grownBy W5 va.ownBlock) (how5 : W5.ownsRow b 62 1 v5 (ps.length + 1) (ps ++ [p])) (hor : v5.ownBlock = va.ownBlock ∨ ∃ g, v5.ownBlock = some g ∧ W.heap.size ≤ g)
    (hb6 : Blk W6 Hb 82 (arr 4 (haF v5 (.slice none 0 0) (.slice none 0 0) H))) (hg6 : W5.grownBy W6 (some Hb)) : OpenS b W6 N H Hb v5 (ps ++ [p]) l ∧ Below b W W6 := by
  have hneH : some Hb ≠ va.ownBlock := fun e => by
    obtain ⟨ds, h1, _⟩ := row_at k.own e.symm
    exact blk_ne k.blk h1 (by decide) rfl
  have hkeep : ∀ g, g < W.heap.size → some g ≠ va.ownBlock → g ≠ Hb → W6.heap[g]? = W.heap[g]? := fun g hlt h1 h2 => (hg6.block g (Nat.lt_of_lt_of_le hlt hg5.size) fun e => h2 (Option.some.inj e)).trans (hg5.block g hlt h1)
  have hv5H : v5.ownBlock ≠ some Hb := by
    rcases hor with e | ⟨g, e, hg⟩
    · rw [e]
      exact hneH.symm
    · rw [e]
      intro e2
      have := k.blk.lt
      have := Option.some.inj e2
      omega
  refine ⟨⟨k.hall.keep fun i x hx g hg => hkeep g ((k.hall.at_ i x hx).lt hg) (fun e => k.outA g e.symm i x hx hg) (fun e => k.outH i x hx (e ▸ hg)), hb6, ?_, k.outH, fun g hg => ?_, k.low, k.fresh⟩, hg6.os.trans hg5.os, hg6.tape.trans hg5.tape, hg6.output.trans hg5.output, Nat.le_trans hg5.size hg6.size, fun g hg => hkeep g (by omega) (fun e => ?_) (fun e => ?_)⟩
  · rw [List.length_append, List.length_singleton]
    exact row_eq how5 fun g hg => hg6.block g (how5.lt g hg).2 fun e => hv5H (hg.trans (e ▸ rfl))
  · rcases hor with e | ⟨g', e, hg'⟩
    · exact k.outA g (e ▸ hg)
    · rw [e] at hg
      have := Option.some.inj hg
      exact k.hall.lt (by omega)
  · obtain ⟨_, _, h2⟩ := row_at k.own e.symm
    omega
  · have := k.low
    omega
/-- The beginning. -/
theorem OpenS.hallM {b : Nat} {W W' : World} {N H Hb Db : Nat} {Ab cap : Nat} {l : List RB} (k : OpenS b W N H Hb (.slice (some ⟨Ab, 0, none⟩) H cap) (ptrsOf l) l) (hl : l.length = H) (hlt : W.heap.size = Db) (hw : b ≤ W.heap.size) {W1 : World} (hW1 : W.alloc (.cells (arr (32 * H) fun _ => .int .u8 0) 24) = W1)
    (hb6 : Blk W' Hb 82 (arr 4 (haF (.slice (some ⟨Ab, 0, none⟩) H cap) (.slice none 0 0) (.slice (some ⟨Db, 0, none⟩) H H) H))) (hg6 : W1.grownBy W' (some Hb)) :
    HallM b W' H ⟨Hb, Ab, Db, cap, .slice none 0 0, l, [], List.replicate H zeroId⟩ ∧ Below b W W' := by
  have hB1 : Below W.heap.size W W1 := by rw [← hW1]; exact (Below.refl _ _).alloc (Nat.le_refl _) _
  have hD1 : Blk W1 Db 24 (arr (32 * H) (dsF (List.replicate H zeroId))) := by rw [← hW1, ← hlt]; exact (Blk.new _ _ _).same (ds_zero H)
  have hneD : Db ≠ Hb := by have := k.blk.lt; omega
  have hkeep : ∀ g, g < W.heap.size → g ≠ Hb → W'.heap[g]? = W.heap[g]? := fun g h1 h2 => (hg6.block g (Nat.lt_of_lt_of_le h1 hB1.size) fun e => h2 (Option.some.inj e)).trans (hB1.block g h1)
  obtain ⟨cs, a1, a2⟩ := row_at k.own (g := Ab) rfl
  have hAH : Ab ≠ Hb := blk_ne a1 k.blk (by decide)
  refine ⟨⟨k.hall.keep fun i x hx g hg => hkeep g ((k.hall.at_ i x hx).lt hg) (fun e => k.outH i x hx (e ▸ hg)), hl, hb6, ⟨cs, a1.eqAt (hkeep _ a1.lt hAH), fun i x hx => ?_⟩, World.ownsRow_nil _ _ _ _, fun m hm => (by cases hm), by show (0 : Nat) ≤ 2000; omega, ?_, by show (List.replicate H zeroId).length = H; simp, fun x hx => by rw [(List.mem_replicate.1 hx).2]; exact zeroId_ok, k.outH, k.outA Ab rfl, ?_, fun g hg => (by cases hg), k.low, a2, ?_⟩, hg6.os.trans hB1.os, hg6.tape.trans hB1.tape, hg6.output.trans hB1.output, Nat.le_trans hB1.size hg6.size, fun g hg => hkeep g (by omega) (fun e => by have := k.low; omega)⟩
  · have h2 : (ptrsOf l)[i]? = some (.pointer (some ⟨x.B, 0, none⟩)) := by unfold ptrsOf; rw [List.getElem?_map, hx]; rfl
    have h3 := k.own.cells (g := Ab) rfl i _ h2
    rw [show (⟨Ab, 0, none⟩ : Addr).add i = ⟨Ab, i, none⟩ by unfold Addr.add; split <;> simp_all, a1.cell] at h3
    exact h3
  · exact hD1.grown hg6 fun e => hneD (Option.some.inj e)
  · exact k.hall.lt (by show ¬ Db < W.heap.size; omega)
  · show b ≤ Db
    omega
set_option maxRecDepth 100000 in
set_option maxHeartbeats 8000000 in
theorem open_4 (b : Nat) (W : World) (hw : b ≤ W.heap.size) : Calls Try.prog 36 #[.int .i64 4] W fun e w' => ∃ h : HM, e = .returned (.pointer (some ⟨h.Hb, 0, none⟩)) ∧ HallM b w' 3 h ∧ Below b W w' ∧ h.ms = [] ∧ h.ds = List.replicate 3 zeroId ∧ ∀ (q : Nat) (x : RB), h.l[q]? = some x → FreshR 4 q x.s ∧ x.n ≤ 1010 := by
  have HBW := Lib.hid hw
  have hfa : ∀ w, Calls Try.prog 18 #[.int .i64 4] w fun e w' => e = .returned (.int .i64 1) ∧ w' = w := fun w => faults_any 4 w
  have HFA := Lib.hid hfa
  clear hw hfa
  go_enter Try.func36, Try.ntmps36
  go_upto_region 2 with (go_at_call 18; refine (HFA.out _).mono ?_; rintro e Wf ⟨rfl, h1⟩; obtain rfl := h1.symm)
  generalize hW1 : World.alloc W _ = W1
  have hk1 : Blk W1 W.heap.size 82 (arr 4 (haF (.slice none 0 0) (.slice none 0 0) (.slice none 0 0) 3)) := by rw [← hW1]; exact (Blk.new _ _ _).same (ha_new _ _ _ 3)
  have hb1 : Below b W W1 := by rw [← hW1]; exact ((Below.refl W.heap.size W).alloc (Nat.le_refl _) _).mono HBW.out
  have HO1 : Hid (OpenS b W1 4 3 W.heap.size (.slice none 0 0) [] []) := Lib.hid ⟨hall_nil _ _, hk1, World.ownsRow_nil _ _ _ _, fun i x hx => (by simp at hx), fun g hg => (by cases hg), HBW.out, fun q x hx => by simp at hx⟩
  have HB1 := Lib.hid hb1
  clear hW1 hk1 hb1
  go_upto_region 3 with fail
  go_loopw [4] (fun s4 wr => ∃ (i : Nat) (l : List RB) (va : Value), i ≤ 3 ∧ s4 = .int .i64 (i : Int) ∧ OpenS b wr 4 3 W.heap.size va (ptrsOf l) l ∧ l.length = i ∧ (∀ (q : Nat) (x : RB), l[q]? = some x → x.n ≤ 1010) ∧ Below b W wr) (fun s4 _ => 3 - (intOf s4).toNat)
  case atStart => exact ⟨0, [], _, Nat.zero_le _, rfl, HO1.out, rfl, fun q x hx => (by simp at hx), HB1.out⟩
  case round =>
    obtain ⟨i, l, va, hi, rfl, hOS, hll, hln, hB⟩ := hrel
    have ch : wr.cell? ⟨W.heap.size, 1, none⟩ = some (.int .i64 3) := by rw [hOS.blk.cell, arr_get, if_pos (by omega)]; rfl
    by_cases hiH : i < 3
    · have hii : (i : Int) < 3 := by omega
      have hi0 : (0 : Int) ≤ (i : Int) := by omega
      go_upto_region 6 with (go_at_call 33; refine (newR_good (4 : Int) (i : Int) 5 _ (by decide) (by omega) (by omega) (by decide) (wfi_small (by decide) (by decide))).mono ?_; rintro e W2 ⟨B, C, M, rfl, hra, hbw, h1, h2, h3⟩)
      replace hOS := hOS.new (Nat.le_trans HBW.out hB.size) hbw hra h1 h2 h3 (hll ▸ new_fresh _ _ _)
      replace hB := hB.trans (hbw.mono (Nat.le_trans HBW.out hB.size))
      have HLI := Lib.hid hll
      have HLN := Lib.hid hln
      have HOS := Lib.hid hOS
      have HB2 := Lib.hid hB
      clear hra hbw h1 h2 h3 ch hOS hB hll hln
      go_upto_region 8 with fail
      go_upto_region 9 with fail
      obtain ⟨wp, hwp⟩ : ∃ z, z = wr := ⟨_, rfl⟩
      subst hwp
      go_loopw [7] (fun s7 wr => ∃ (k : Nat) (x : RB), 1 ≤ k ∧ k ≤ 5 ∧ s7 = .int .u8 (k : Int) ∧ OpenS b wr 4 3 W.heap.size va (ptrsOf l) (l ++ [x]) ∧ x.B = B ∧ x.n ≤ 202 * k - 202 ∧ Below b W wr) (fun s7 _ => 5 - (intOf s7).toNat)
      case atStart => exact ⟨1, _, by omega, by omega, rfl, HOS.out, rfl, by show (0 : Nat) ≤ _; omega, HB2.out⟩
      case round =>
        obtain ⟨k, x, hk1, hk5, rfl, hOS, hxb, hxn, hB⟩ := hrel
        have HXN := Lib.hid hxn
        have HX : Hid ((l ++ [x])[i]? = some x) := Lib.hid (by rw [List.getElem?_append_right (by rw [HLI.out]; exact Nat.le_refl _), HLI.out, Nat.sub_self]; rfl)
        have hxB : x.B = B := hxb
        clear hxb hxn
        subst hxB
        have hk : k = 1 ∨ k = 2 ∨ k = 3 ∨ k = 4 ∨ k = 5 := by omega
        rcases hk with rfl | rfl | rfl | rfl | rfl
        · go_wp2_with (first
          | (guard_target = wpList _ _ _ (Oper.mk _ (.build 24 _) _ _ _ _ :: _) _ _; refine wpList_yields (S := fun _ => True) trivial (v := idv (kidB 1)) (yields_build (by rfl) 24 _ rfl [(0, .int .u8 1)] rfl _ (kidB_built 1)) (by rfl) ?_)
          | (go_at_call 45; refine (know_any (hOS.hall.at_ i x HX.out) (kidB 1) (kidB_ok 1) (by have := HXN.out; unfold maxLen; omega)).mono ?_; rintro e Wk hdn; obtain ⟨vk, kv', rfl, hOK, hBK⟩ := hOS.know (Nat.le_trans HBW.out hB.size) HX.out hdn))
          go_roundw
          case rel => exact ⟨1 + 1, ⟨x.B, x.C, x.M, x.n + 202, kv', settleS (remS x.s (kidB 1))⟩, by omega, by omega, by go_num, by rw [List.set_append_right _ _ (by rw [HLI.out]; exact Nat.le_refl _), HLI.out, Nat.sub_self] at hOK; exact hOK, rfl, by show x.n + 202 ≤ _; have := HXN.out; omega, hB.trans hBK⟩
          case measure => simp [intOf]
        · go_wp2_with (first
          | (guard_target = wpList _ _ _ (Oper.mk _ (.build 24 _) _ _ _ _ :: _) _ _; refine wpList_yields (S := fun _ => True) trivial (v := idv (kidB 2)) (yields_build (by rfl) 24 _ rfl [(0, .int .u8 2)] rfl _ (kidB_built 2)) (by rfl) ?_)
          | (go_at_call 45; refine (know_any (hOS.hall.at_ i x HX.out) (kidB 2) (kidB_ok 2) (by have := HXN.out; unfold maxLen; omega)).mono ?_; rintro e Wk hdn; obtain ⟨vk, kv', rfl, hOK, hBK⟩ := hOS.know (Nat.le_trans HBW.out hB.size) HX.out hdn))
          go_roundw
          case rel => exact ⟨2 + 1, ⟨x.B, x.C, x.M, x.n + 202, kv', settleS (remS x.s (kidB 2))⟩, by omega, by omega, by go_num, by rw [List.set_append_right _ _ (by rw [HLI.out]; exact Nat.le_refl _), HLI.out, Nat.sub_self] at hOK; exact hOK, rfl, by show x.n + 202 ≤ _; have := HXN.out; omega, hB.trans hBK⟩
          case measure => simp [intOf]
        · go_wp2_with (first
          | (guard_target = wpList _ _ _ (Oper.mk _ (.build 24 _) _ _ _ _ :: _) _ _; refine wpList_yields (S := fun _ => True) trivial (v := idv (kidB 3)) (yields_build (by rfl) 24 _ rfl [(0, .int .u8 3)] rfl _ (kidB_built 3)) (by rfl) ?_)
          | (go_at_call 45; refine (know_any (hOS.hall.at_ i x HX.out) (kidB 3) (kidB_ok 3) (by have := HXN.out; unfold maxLen; omega)).mono ?_; rintro e Wk hdn; obtain ⟨vk, kv', rfl, hOK, hBK⟩ := hOS.know (Nat.le_trans HBW.out hB.size) HX.out hdn))
          go_roundw
          case rel => exact ⟨3 + 1, ⟨x.B, x.C, x.M, x.n + 202, kv', settleS (remS x.s (kidB 3))⟩, by omega, by omega, by go_num, by rw [List.set_append_right _ _ (by rw [HLI.out]; exact Nat.le_refl _), HLI.out, Nat.sub_self] at hOK; exact hOK, rfl, by show x.n + 202 ≤ _; have := HXN.out; omega, hB.trans hBK⟩
          case measure => simp [intOf]
        · go_wp2_with (first
          | (guard_target = wpList _ _ _ (Oper.mk _ (.build 24 _) _ _ _ _ :: _) _ _; refine wpList_yields (S := fun _ => True) trivial (v := idv (kidB 4)) (yields_build (by rfl) 24 _ rfl [(0, .int .u8 4)] rfl _ (kidB_built 4)) (by rfl) ?_)
          | (go_at_call 45; refine (know_any (hOS.hall.at_ i x HX.out) (kidB 4) (kidB_ok 4) (by have := HXN.out; unfold maxLen; omega)).mono ?_; rintro e Wk hdn; obtain ⟨vk, kv', rfl, hOK, hBK⟩ := hOS.know (Nat.le_trans HBW.out hB.size) HX.out hdn))
          go_roundw
          case rel => exact ⟨4 + 1, ⟨x.B, x.C, x.M, x.n + 202, kv', settleS (remS x.s (kidB 4))⟩, by omega, by omega, by go_num, by rw [List.set_append_right _ _ (by rw [HLI.out]; exact Nat.le_refl _), HLI.out, Nat.sub_self] at hOK; exact hOK, rfl, by show x.n + 202 ≤ _; have := HXN.out; omega, hB.trans hBK⟩
          case measure => simp [intOf]
        · go_upto_region 12 with fail
          have ca : wr.cell? ⟨W.heap.size, 0, none⟩ = some va := by rw [hOS.blk.cell, arr_get, if_pos (by omega)]; rfl
          obtain ⟨A1, c1, hva⟩ := row_slice hOS.own
          obtain ⟨pn, hpn⟩ : ∃ pn, (ptrsOf l).length = pn := ⟨_, rfl⟩
          have hvb : va = .slice A1 pn c1 := hva.trans (by rw [← hpn])
          subst hvb
          have HOX := Lib.hid hOS
          have HPN := Lib.hid hpn
          clear hva hpn hOS
          go_wp2_with (first
            | (at_builtin; have HBP := Lib.hid ((Below.refl wr.heap.size wr).alloc (Nat.le_refl _) (.cells #[.pointer (some ⟨x.B, 0, none⟩)] 62)); have HPB : Hid (Blk (wr.alloc (.cells #[.pointer (some ⟨x.B, 0, none⟩)] 62)) wr.heap.size 62 #[.pointer (some ⟨x.B, 0, none⟩)]) := Lib.hid (Blk.new _ _ _); go_loud (obtain ⟨v5, W5, hrun, how5, hg5, hor5⟩ := app_ptr (Nat.le_trans (Nat.le_trans HBW.out hB.size) HBP.out.size) (rowV_kept HOX.out.own HBP.out) (.pointer (some ⟨x.B, 0, none⟩)) rfl HPB.out (by rw [HPN.out]; have h9 := HPN.out; unfold ptrsOf at h9; rw [List.length_map, HLI.out] at h9; omega); rw [HPN.out] at how5; refine wpList_append_run rfl _ _ _ _ rfl _ _ rfl rfl v5 W5 hrun ?_; have HOW5 := Lib.hid how5; have HG5 := Lib.hid (grown_trans (grown_of_below HBP.out _) hg5); have HOR5 : Hid (v5.ownBlock = Value.ownBlock (.slice A1 pn c1) ∨ ∃ g, v5.ownBlock = some g ∧ wr.heap.size ≤ g) := Lib.hid (hor5.imp (fun e => e) fun e => ⟨_, e, HBP.out.size⟩); have HBK5 : Hid (Blk W5 W.heap.size 82 (arr 4 (haF (.slice A1 pn c1) (.slice none 0 0) (.slice none 0 0) 3))) := Lib.hid (HOX.out.blk.grown HG5.out fun e => by (obtain ⟨ds, h3, _⟩ := row_at HOX.out.own e.symm; exact blk_ne HOX.out.blk h3 (by decide) rfl)); clear hrun how5 hg5 hor5))
            | (guard_target = wpList _ _ _ (Oper.mk _ (.store 79 _ _) _ _ _ _ :: _) _ _; refine wpList_plain rfl fun K hK => oper_store_val 79 _ _ rfl W.heap.size 0 4 _ v5 (own_cells HOW5.out).1 (own_cells HOW5.out).2 rfl rfl 82 HBK5.out (by kernel_rfl) (by omega) fun W6 hw6 => hK _ _ ?_; have HBK6 : Hid (Blk W6 W.heap.size 82 (arr 4 (haF v5 (.slice none 0 0) (.slice none 0 0) 3))) := Lib.hid (by rw [hw6]; exact (HBK5.out.setRow _).same (ha_put0 _ _ _ _ _)); have HG6 : Hid (W5.grownBy W6 (some W.heap.size)) := Lib.hid (by rw [hw6]; exact grown_row _ _ _); clear hw6))
          have hfin := HOX.out.push (Nat.le_trans HBW.out hB.size) HG5.out (by rw [HPN.out]; exact HOW5.out) HOR5.out HBK6.out HG6.out
          go_roundw
          case rel => exact ⟨i + 1, l ++ [x], v5, by omega, by go_num, by rw [show ptrsOf (l ++ [x]) = ptrsOf l ++ [.pointer (some ⟨x.B, 0, none⟩)] by unfold ptrsOf; rw [List.map_append]; rfl]; exact hfin.1, by rw [List.length_append, HLI.out]; rfl, fun q y hy => by
            by_cases hq : q < l.length
            · rw [List.getElem?_append_left hq] at hy
              exact HLN.out q y hy
            · rw [List.getElem?_append_right (by omega)] at hy
              have hy2 : y = x := by
                by_cases he : q - l.length = 0
                · rw [he] at hy
                  exact (Option.some.inj hy).symm
                · rw [List.getElem?_eq_none (by simp; omega)] at hy
                  cases hy
              rw [hy2]
              have := HXN.out
              omega, hB.trans hfin.2⟩
          case measure => simp [intOf]; omega
    · obtain rfl : i = 3 := by omega
      have hii : ¬ ((3 : Nat) : Int) < 3 := by omega
      have hmk : ∀ w, (Instr.makeSlice 49 (.int .i64 3) (.int .i64 3)).run Try.prog w = .ok (.slice (some ⟨w.heap.size, 0, none⟩) 3 3) (w.alloc (.cells (arr (32 * 3) fun _ => .int .u8 0) 24)) := fun w => run_mk_idsH 3 (by omega) w
      have HOX := Lib.hid hOS
      have HLL := Lib.hid hll
      have HLN := Lib.hid hln
      obtain ⟨Ab, cap, hvb⟩ : ∃ Ab cap, va = .slice (some ⟨Ab, 0, none⟩) 3 cap := by
        have hpl : (ptrsOf l).length = 3 := by unfold ptrsOf; rw [List.length_map]; exact hll
        rcases hOS.own.2 with ⟨_, h0⟩ | ⟨g, cap, cur, hv, _⟩
        · omega
        · exact ⟨g, cap, by rw [hv, hpl]⟩
      subst hvb
      have HBB := Lib.hid hB
      clear hOS hll hln hB
      go_wp2_with (guard_target = wpList _ _ _ (Oper.mk _ (.store 49 _ _) _ _ _ _ :: _) _ _; refine wpList_plain rfl fun K hK => oper_store_val 49 _ _ rfl W.heap.size 3 4 _ (.slice (some ⟨wr.heap.size, 0, none⟩) 3 3) rfl rfl rfl rfl 82 (HOX.out.blk.below ((Below.refl _ _).alloc (Nat.le_refl _) _) HOX.out.blk.lt) (by kernel_rfl) (by omega) fun W6 hw6 => hK _ _ ?_; have HBK6 : Hid (Blk W6 W.heap.size 82 (arr 4 (haF (.slice (some ⟨Ab, 0, none⟩) 3 cap) (.slice none 0 0) (.slice (some ⟨wr.heap.size, 0, none⟩) 3 3) 3))) := Lib.hid (by rw [hw6]; exact (((HOX.out.blk.below ((Below.refl _ _).alloc (Nat.le_refl _) _) HOX.out.blk.lt)).setRow _).same (ha_put3 _ _ _ _ _)); have HG6 : Hid ((wr.alloc (.cells (arr (32 * 3) fun _ => .int .u8 0) 24)).grownBy W6 (some W.heap.size)) := Lib.hid (by rw [hw6]; exact grown_row _ _ _); clear hw6)
      have hfin := HOX.out.hallM HLL.out rfl (Nat.le_trans HBW.out HBB.out.size) rfl HBK6.out HG6.out
      go_ret
      exact ⟨_, rfl, hfin.1, HBB.out.trans hfin.2, rfl, rfl, fun q x hx => ⟨HOX.out.fresh q x hx, HLN.out q x hx⟩⟩
set_option maxRecDepth 100000 in
set_option maxHeartbeats 8000000 in
theorem open_7 (b : Nat) (W : World) (hw : b ≤ W.heap.size) : Calls Try.prog 36 #[.int .i64 7] W fun e w' => ∃ h : HM, e = .returned (.pointer (some ⟨h.Hb, 0, none⟩)) ∧ HallM b w' 5 h ∧ Below b W w' ∧ h.ms = [] ∧ h.ds = List.replicate 5 zeroId ∧ ∀ (q : Nat) (x : RB), h.l[q]? = some x → FreshR 7 q x.s ∧ x.n ≤ 1010 := by
  have HBW := Lib.hid hw
  have hfa : ∀ w, Calls Try.prog 18 #[.int .i64 7] w fun e w' => e = .returned (.int .i64 2) ∧ w' = w := fun w => faults_any 7 w
  have HFA := Lib.hid hfa
  clear hw hfa
  go_enter Try.func36, Try.ntmps36
  go_upto_region 2 with (go_at_call 18; refine (HFA.out _).mono ?_; rintro e Wf ⟨rfl, h1⟩; obtain rfl := h1.symm)
  generalize hW1 : World.alloc W _ = W1
  have hk1 : Blk W1 W.heap.size 82 (arr 4 (haF (.slice none 0 0) (.slice none 0 0) (.slice none 0 0) 5)) := by rw [← hW1]; exact (Blk.new _ _ _).same (ha_new _ _ _ 5)
  have hb1 : Below b W W1 := by rw [← hW1]; exact ((Below.refl W.heap.size W).alloc (Nat.le_refl _) _).mono HBW.out
  have HO1 : Hid (OpenS b W1 7 5 W.heap.size (.slice none 0 0) [] []) := Lib.hid ⟨hall_nil _ _, hk1, World.ownsRow_nil _ _ _ _, fun i x hx => (by simp at hx), fun g hg => (by cases hg), HBW.out, fun q x hx => by simp at hx⟩
  have HB1 := Lib.hid hb1
  clear hW1 hk1 hb1
  go_upto_region 3 with fail
  go_loopw [4] (fun s4 wr => ∃ (i : Nat) (l : List RB) (va : Value), i ≤ 5 ∧ s4 = .int .i64 (i : Int) ∧ OpenS b wr 7 5 W.heap.size va (ptrsOf l) l ∧ l.length = i ∧ (∀ (q : Nat) (x : RB), l[q]? = some x → x.n ≤ 1010) ∧ Below b W wr) (fun s4 _ => 5 - (intOf s4).toNat)
  case atStart => exact ⟨0, [], _, Nat.zero_le _, rfl, HO1.out, rfl, fun q x hx => (by simp at hx), HB1.out⟩
  case round =>
    obtain ⟨i, l, va, hi, rfl, hOS, hll, hln, hB⟩ := hrel
    have ch : wr.cell? ⟨W.heap.size, 1, none⟩ = some (.int .i64 5) := by rw [hOS.blk.cell, arr_get, if_pos (by omega)]; rfl
    by_cases hiH : i < 5
    · have hii : (i : Int) < 5 := by omega
      have hi0 : (0 : Int) ≤ (i : Int) := by omega
      go_upto_region 6 with (go_at_call 33; refine (newR_good (7 : Int) (i : Int) 5 _ (by decide) (by omega) (by omega) (by decide) (wfi_small (by decide) (by decide))).mono ?_; rintro e W2 ⟨B, C, M, rfl, hra, hbw, h1, h2, h3⟩)
      replace hOS := hOS.new (Nat.le_trans HBW.out hB.size) hbw hra h1 h2 h3 (hll ▸ new_fresh _ _ _)
      replace hB := hB.trans (hbw.mono (Nat.le_trans HBW.out hB.size))
      have HLI := Lib.hid hll
      have HLN := Lib.hid hln
      have HOS := Lib.hid hOS
      have HB2 := Lib.hid hB
      clear hra hbw h1 h2 h3 ch hOS hB hll hln
      go_upto_region 8 with fail
      go_upto_region 9 with fail
      obtain ⟨wp, hwp⟩ : ∃ z, z = wr := ⟨_, rfl⟩
      subst hwp
      go_loopw [7] (fun s7 wr => ∃ (k : Nat) (x : RB), 1 ≤ k ∧ k ≤ 5 ∧ s7 = .int .u8 (k : Int) ∧ OpenS b wr 7 5 W.heap.size va (ptrsOf l) (l ++ [x]) ∧ x.B = B ∧ x.n ≤ 202 * k - 202 ∧ Below b W wr) (fun s7 _ => 5 - (intOf s7).toNat)
      case atStart => exact ⟨1, _, by omega, by omega, rfl, HOS.out, rfl, by show (0 : Nat) ≤ _; omega, HB2.out⟩
      case round =>
        obtain ⟨k, x, hk1, hk5, rfl, hOS, hxb, hxn, hB⟩ := hrel
        have HXN := Lib.hid hxn
        have HX : Hid ((l ++ [x])[i]? = some x) := Lib.hid (by rw [List.getElem?_append_right (by rw [HLI.out]; exact Nat.le_refl _), HLI.out, Nat.sub_self]; rfl)
        have hxB : x.B = B := hxb
        clear hxb hxn
        subst hxB
        have hk : k = 1 ∨ k = 2 ∨ k = 3 ∨ k = 4 ∨ k = 5 := by omega
        rcases hk with rfl | rfl | rfl | rfl | rfl
        · go_wp2_with (first
          | (guard_target = wpList _ _ _ (Oper.mk _ (.build 24 _) _ _ _ _ :: _) _ _; refine wpList_yields (S := fun _ => True) trivial (v := idv (kidB 1)) (yields_build (by rfl) 24 _ rfl [(0, .int .u8 1)] rfl _ (kidB_built 1)) (by rfl) ?_)
          | (go_at_call 45; refine (know_any (hOS.hall.at_ i x HX.out) (kidB 1) (kidB_ok 1) (by have := HXN.out; unfold maxLen; omega)).mono ?_; rintro e Wk hdn; obtain ⟨vk, kv', rfl, hOK, hBK⟩ := hOS.know (Nat.le_trans HBW.out hB.size) HX.out hdn))
          go_roundw
          case rel => exact ⟨1 + 1, ⟨x.B, x.C, x.M, x.n + 202, kv', settleS (remS x.s (kidB 1))⟩, by omega, by omega, by go_num, by rw [List.set_append_right _ _ (by rw [HLI.out]; exact Nat.le_refl _), HLI.out, Nat.sub_self] at hOK; exact hOK, rfl, by show x.n + 202 ≤ _; have := HXN.out; omega, hB.trans hBK⟩
          case measure => simp [intOf]
        · go_wp2_with (first
          | (guard_target = wpList _ _ _ (Oper.mk _ (.build 24 _) _ _ _ _ :: _) _ _; refine wpList_yields (S := fun _ => True) trivial (v := idv (kidB 2)) (yields_build (by rfl) 24 _ rfl [(0, .int .u8 2)] rfl _ (kidB_built 2)) (by rfl) ?_)
          | (go_at_call 45; refine (know_any (hOS.hall.at_ i x HX.out) (kidB 2) (kidB_ok 2) (by have := HXN.out; unfold maxLen; omega)).mono ?_; rintro e Wk hdn; obtain ⟨vk, kv', rfl, hOK, hBK⟩ := hOS.know (Nat.le_trans HBW.out hB.size) HX.out hdn))
          go_roundw
          case rel => exact ⟨2 + 1, ⟨x.B, x.C, x.M, x.n + 202, kv', settleS (remS x.s (kidB 2))⟩, by omega, by omega, by go_num, by rw [List.set_append_right _ _ (by rw [HLI.out]; exact Nat.le_refl _), HLI.out, Nat.sub_self] at hOK; exact hOK, rfl, by show x.n + 202 ≤ _; have := HXN.out; omega, hB.trans hBK⟩
          case measure => simp [intOf]
        · go_wp2_with (first
          | (guard_target = wpList _ _ _ (Oper.mk _ (.build 24 _) _ _ _ _ :: _) _ _; refine wpList_yields (S := fun _ => True) trivial (v := idv (kidB 3)) (yields_build (by rfl) 24 _ rfl [(0, .int .u8 3)] rfl _ (kidB_built 3)) (by rfl) ?_)
          | (go_at_call 45; refine (know_any (hOS.hall.at_ i x HX.out) (kidB 3) (kidB_ok 3) (by have := HXN.out; unfold maxLen; omega)).mono ?_; rintro e Wk hdn; obtain ⟨vk, kv', rfl, hOK, hBK⟩ := hOS.know (Nat.le_trans HBW.out hB.size) HX.out hdn))
          go_roundw
          case rel => exact ⟨3 + 1, ⟨x.B, x.C, x.M, x.n + 202, kv', settleS (remS x.s (kidB 3))⟩, by omega, by omega, by go_num, by rw [List.set_append_right _ _ (by rw [HLI.out]; exact Nat.le_refl _), HLI.out, Nat.sub_self] at hOK; exact hOK, rfl, by show x.n + 202 ≤ _; have := HXN.out; omega, hB.trans hBK⟩
          case measure => simp [intOf]
        · go_wp2_with (first
          | (guard_target = wpList _ _ _ (Oper.mk _ (.build 24 _) _ _ _ _ :: _) _ _; refine wpList_yields (S := fun _ => True) trivial (v := idv (kidB 4)) (yields_build (by rfl) 24 _ rfl [(0, .int .u8 4)] rfl _ (kidB_built 4)) (by rfl) ?_)
          | (go_at_call 45; refine (know_any (hOS.hall.at_ i x HX.out) (kidB 4) (kidB_ok 4) (by have := HXN.out; unfold maxLen; omega)).mono ?_; rintro e Wk hdn; obtain ⟨vk, kv', rfl, hOK, hBK⟩ := hOS.know (Nat.le_trans HBW.out hB.size) HX.out hdn))
          go_roundw
          case rel => exact ⟨4 + 1, ⟨x.B, x.C, x.M, x.n + 202, kv', settleS (remS x.s (kidB 4))⟩, by omega, by omega, by go_num, by rw [List.set_append_right _ _ (by rw [HLI.out]; exact Nat.le_refl _), HLI.out, Nat.sub_self] at hOK; exact hOK, rfl, by show x.n + 202 ≤ _; have := HXN.out; omega, hB.trans hBK⟩
          case measure => simp [intOf]
        · go_upto_region 12 with fail
          have ca : wr.cell? ⟨W.heap.size, 0, none⟩ = some va := by rw [hOS.blk.cell, arr_get, if_pos (by omega)]; rfl
          obtain ⟨A1, c1, hva⟩ := row_slice hOS.own
          obtain ⟨pn, hpn⟩ : ∃ pn, (ptrsOf l).length = pn := ⟨_, rfl⟩
          have hvb : va = .slice A1 pn c1 := hva.trans (by rw [← hpn])
          subst hvb
          have HOX := Lib.hid hOS
          have HPN := Lib.hid hpn
          clear hva hpn hOS
          go_wp2_with (first
            | (at_builtin; have HBP := Lib.hid ((Below.refl wr.heap.size wr).alloc (Nat.le_refl _) (.cells #[.pointer (some ⟨x.B, 0, none⟩)] 62)); have HPB : Hid (Blk (wr.alloc (.cells #[.pointer (some ⟨x.B, 0, none⟩)] 62)) wr.heap.size 62 #[.pointer (some ⟨x.B, 0, none⟩)]) := Lib.hid (Blk.new _ _ _); go_loud (obtain ⟨v5, W5, hrun, how5, hg5, hor5⟩ := app_ptr (Nat.le_trans (Nat.le_trans HBW.out hB.size) HBP.out.size) (rowV_kept HOX.out.own HBP.out) (.pointer (some ⟨x.B, 0, none⟩)) rfl HPB.out (by rw [HPN.out]; have h9 := HPN.out; unfold ptrsOf at h9; rw [List.length_map, HLI.out] at h9; omega); rw [HPN.out] at how5; refine wpList_append_run rfl _ _ _ _ rfl _ _ rfl rfl v5 W5 hrun ?_; have HOW5 := Lib.hid how5; have HG5 := Lib.hid (grown_trans (grown_of_below HBP.out _) hg5); have HOR5 : Hid (v5.ownBlock = Value.ownBlock (.slice A1 pn c1) ∨ ∃ g, v5.ownBlock = some g ∧ wr.heap.size ≤ g) := Lib.hid (hor5.imp (fun e => e) fun e => ⟨_, e, HBP.out.size⟩); have HBK5 : Hid (Blk W5 W.heap.size 82 (arr 4 (haF (.slice A1 pn c1) (.slice none 0 0) (.slice none 0 0) 5))) := Lib.hid (HOX.out.blk.grown HG5.out fun e => by (obtain ⟨ds, h3, _⟩ := row_at HOX.out.own e.symm; exact blk_ne HOX.out.blk h3 (by decide) rfl)); clear hrun how5 hg5 hor5))
            | (guard_target = wpList _ _ _ (Oper.mk _ (.store 79 _ _) _ _ _ _ :: _) _ _; refine wpList_plain rfl fun K hK => oper_store_val 79 _ _ rfl W.heap.size 0 4 _ v5 (own_cells HOW5.out).1 (own_cells HOW5.out).2 rfl rfl 82 HBK5.out (by kernel_rfl) (by omega) fun W6 hw6 => hK _ _ ?_; have HBK6 : Hid (Blk W6 W.heap.size 82 (arr 4 (haF v5 (.slice none 0 0) (.slice none 0 0) 5))) := Lib.hid (by rw [hw6]; exact (HBK5.out.setRow _).same (ha_put0 _ _ _ _ _)); have HG6 : Hid (W5.grownBy W6 (some W.heap.size)) := Lib.hid (by rw [hw6]; exact grown_row _ _ _); clear hw6))
          have hfin := HOX.out.push (Nat.le_trans HBW.out hB.size) HG5.out (by rw [HPN.out]; exact HOW5.out) HOR5.out HBK6.out HG6.out
          go_roundw
          case rel => exact ⟨i + 1, l ++ [x], v5, by omega, by go_num, by rw [show ptrsOf (l ++ [x]) = ptrsOf l ++ [.pointer (some ⟨x.B, 0, none⟩)] by unfold ptrsOf; rw [List.map_append]; rfl]; exact hfin.1, by rw [List.length_append, HLI.out]; rfl, fun q y hy => by
            by_cases hq : q < l.length
            · rw [List.getElem?_append_left hq] at hy
              exact HLN.out q y hy
            · rw [List.getElem?_append_right (by omega)] at hy
              have hy2 : y = x := by
                by_cases he : q - l.length = 0
                · rw [he] at hy
                  exact (Option.some.inj hy).symm
                · rw [List.getElem?_eq_none (by simp; omega)] at hy
                  cases hy
              rw [hy2]
              have := HXN.out
              omega, hB.trans hfin.2⟩
          case measure => simp [intOf]; omega
    · obtain rfl : i = 5 := by omega
      have hii : ¬ ((5 : Nat) : Int) < 5 := by omega
      have hmk : ∀ w, (Instr.makeSlice 49 (.int .i64 5) (.int .i64 5)).run Try.prog w = .ok (.slice (some ⟨w.heap.size, 0, none⟩) 5 5) (w.alloc (.cells (arr (32 * 5) fun _ => .int .u8 0) 24)) := fun w => run_mk_idsH 5 (by omega) w
      have HOX := Lib.hid hOS
      have HLL := Lib.hid hll
      have HLN := Lib.hid hln
      obtain ⟨Ab, cap, hvb⟩ : ∃ Ab cap, va = .slice (some ⟨Ab, 0, none⟩) 5 cap := by
        have hpl : (ptrsOf l).length = 5 := by unfold ptrsOf; rw [List.length_map]; exact hll
        rcases hOS.own.2 with ⟨_, h0⟩ | ⟨g, cap, cur, hv, _⟩
        · omega
        · exact ⟨g, cap, by rw [hv, hpl]⟩
      subst hvb
      have HBB := Lib.hid hB
      clear hOS hll hln hB
      go_wp2_with (guard_target = wpList _ _ _ (Oper.mk _ (.store 49 _ _) _ _ _ _ :: _) _ _; refine wpList_plain rfl fun K hK => oper_store_val 49 _ _ rfl W.heap.size 3 4 _ (.slice (some ⟨wr.heap.size, 0, none⟩) 5 5) rfl rfl rfl rfl 82 (HOX.out.blk.below ((Below.refl _ _).alloc (Nat.le_refl _) _) HOX.out.blk.lt) (by kernel_rfl) (by omega) fun W6 hw6 => hK _ _ ?_; have HBK6 : Hid (Blk W6 W.heap.size 82 (arr 4 (haF (.slice (some ⟨Ab, 0, none⟩) 5 cap) (.slice none 0 0) (.slice (some ⟨wr.heap.size, 0, none⟩) 5 5) 5))) := Lib.hid (by rw [hw6]; exact (((HOX.out.blk.below ((Below.refl _ _).alloc (Nat.le_refl _) _) HOX.out.blk.lt)).setRow _).same (ha_put3 _ _ _ _ _)); have HG6 : Hid ((wr.alloc (.cells (arr (32 * 5) fun _ => .int .u8 0) 24)).grownBy W6 (some W.heap.size)) := Lib.hid (by rw [hw6]; exact grown_row _ _ _); clear hw6)
      have hfin := HOX.out.hallM HLL.out rfl (Nat.le_trans HBW.out HBB.out.size) rfl HBK6.out HG6.out
      go_ret
      exact ⟨_, rfl, hfin.1, HBB.out.trans hfin.2, rfl, rfl, fun q x hx => ⟨HOX.out.fresh q x hx, HLN.out q x hx⟩⟩
end Go.Proofs.Ytclhfokflagopaa
