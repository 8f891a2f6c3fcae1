/-
  One's way to agreement: what changes; offers, timers, what one proposes. No condition.
-/
import Derived.Test.YtbgojlcciealiaaRndIdx
import Derived.Test.YtbgojlcciealiaaRndAct
namespace Go.Proofs.Ytbgojlcciealiaa
open Go Go.RowKit Go.Maps

/-- What may change: the block, the votes' map, the row of what is known; and what is new. -/
structure Chg (W W' : World) (B M : Nat) (kv kv' : Value) : Prop where
  os : W'.os = W.os
  tape : W'.tape = W.tape
  output : W'.output = W.output
  size : W.heap.size ≤ W'.heap.size
  block : ∀ k, k < W.heap.size → k ≠ B → k ≠ M → some k ≠ kv.ownBlock → W'.heap[k]? = W.heap[k]?
  row : kv'.ownBlock = kv.ownBlock ∨ ∃ g, kv'.ownBlock = some g ∧ W.heap.size ≤ g
theorem Chg.trans {W W1 W2 : World} {B M : Nat} {kv kv1 kv2 : Value} (h : Chg W W1 B M kv kv1) (k : Chg W1 W2 B M kv1 kv2) : Chg W W2 B M kv kv2 := by
  refine ⟨k.os.trans h.os, k.tape.trans h.tape, k.output.trans h.output, Nat.le_trans h.size k.size, fun b hb h1 h2 h3 => ?_, ?_⟩
  · refine (k.block b (Nat.lt_of_lt_of_le hb h.size) h1 h2 ?_).trans (h.block b hb h1 h2 h3)
    rcases h.row with e | ⟨g, e, hg⟩
    · rw [e]
      exact h3
    · rw [e]
      intro e2
      injection e2 with e2
      omega
  · rcases k.row with e | ⟨g, e, hg⟩
    · rw [e]
      exact h.row
    · exact .inr ⟨g, e, Nat.le_trans h.size hg⟩
theorem Chg.refl (W : World) (B M : Nat) (kv : Value) : Chg W W B M kv kv := ⟨rfl, rfl, rfl, Nat.le_refl _, fun _ _ _ _ _ => rfl, .inl rfl⟩
theorem Chg.ofBelow {W W' : World} {B M : Nat} {kv : Value} (h : Below W.heap.size W W') : Chg W W' B M kv kv := ⟨h.os, h.tape, h.output, h.size, fun k hk _ _ _ => h.block k hk, .inl rfl⟩
theorem Chg.ofB {W W' : World} {B M : Nat} {kv : Value} (h : W.grownBy W' (some B)) : Chg W W' B M kv kv := ⟨h.os, h.tape, h.output, h.size, fun k hk h1 _ _ => h.block k hk fun e => h1 (Option.some.inj e), .inl rfl⟩
theorem Chg.ofM {W W' : World} {B M : Nat} {kv : Value} (h : W.grownBy W' (some M)) : Chg W W' B M kv kv := ⟨h.os, h.tape, h.output, h.size, fun k hk _ h2 _ => h.block k hk fun e => h2 (Option.some.inj e), .inl rfl⟩
theorem RdOk.lay {s : RdS} (h : RdOk s) {k : Nat} {vv : Int} {id : List UInt8} (hid : IdOk id) (hv : 0 ≤ vv) (hv2 : vv ≤ (k : Int)) : RdOk { s with offers := fun j => if j = k then ⟨true, vv, id⟩ else s.offers j } :=
  ⟨h.voters, h.me, h.height, h.round, h.step, h.early, h.fresh, h.lockR, h.lock, h.bestR, h.best, h.known, h.le, fun j hj => by
    by_cases hjk : j = k
    · simp only [hjk, if_pos]
      exact ⟨hid, hv, hv2⟩
    · simp only [if_neg hjk]
      exact h.offers j hj⟩
theorem grown_row (w : World) (g : Nat) (cs : Array Value) : w.grownBy (w.setRow g cs) (some g) := ⟨rfl, rfl, rfl, by rw [size_setRow]; exact Nat.le_refl _, fun i _ hn => setRow_other w g i cs (fun e => hn (e ▸ rfl))⟩
theorem grown_cell (w : World) (g i : Nat) (v : Value) : w.grownBy (w.setCell ⟨g, i, none⟩ v) (some g) := ⟨rfl, rfl, rfl, by simp [World.setCell], fun j _ hn => Below.heap_setCell w _ v j (fun e => hn (e ▸ rfl))⟩
theorem offer_info : (Try.prog.info? 127).map (·.size) = some 34 := by kernel_rfl
theorem index_offer (B k : Nat) (hk : k < 12) (w : World) : (Instr.indexAt 128 (.pointer (some ⟨B, 104, none⟩)) (.int .i64 (k : Int))).run Try.prog w = .ok (.pointer (some ⟨B, 104 + 34 * k, none⟩)) w := by
  have hk1 : (k : Int) < 12 := by omega
  have e : (⟨B, 104, none⟩ : Addr).add (k * 34) = ⟨B, 104 + 34 * k, none⟩ := by unfold Addr.add; simp [Nat.mul_comm]
  have hu := Try.underlying128
  simp [Instr.indexAt, run_underlying hu, hk, go_sem]
theorem yields_build {P : Program} {ops : Array Oper} {S : World → Prop} {op : Oper} {a : Act} (hw : Region.wanted op (yielded ops a.tmps) = true) (t : TypeId) (parts : Array (Nat × Operand)) (ho : op.op = .build t parts) (ps : List (Nat × Value)) (hp : parts.toList.map (fun p => (p.1, a.eval p.2)) = ps) (cells : Array Value)
    (hb : P.built t ps = some cells) : YieldsIf P ops S op (.agg cells) a :=
  .inl ⟨hw, fun w _ => by
    have hl := run_build (P := P) w t (parts.map fun (i, x) => (i, a.eval x)) cells (by rw [Array.toList_map]; rw [← hp] at hb; exact hb)
    unfold execOp
    simp only [ho, Sem.run_bind, hl, Sem.run_pure, Result.andThen_ok]⟩
set_option maxRecDepth 100000 in
theorem offer_fill (b : Bool) (v : Int) (f : Nat → UInt8) : Try.prog.built 127 [(0, .bool b), (1, .int .i64 v), (2, .agg (idC ((List.range 32).map f)))] = some (offC ⟨b, v, (List.range 32).map f⟩).toArray := by kernel_rfl
theorem id_range {id : List UInt8} (h : IdOk id) : id = (List.range 32).map fun i => id.getD i 0 := List.ext_getElem? fun i => by
  unfold IdOk at h
  by_cases hi : i < 32
  · rw [List.getElem?_map, List.getElem?_range hi, List.getElem?_eq_getElem (by omega), Option.map_some, List.getD_eq_getElem?_getD, List.getElem?_eq_getElem (by omega)]
    rfl
  · rw [List.getElem?_eq_none (by omega), List.getElem?_eq_none (by simp; omega)]
theorem offer_built (b : Bool) (v : Int) (id : List UInt8) (h : IdOk id) : Try.prog.built 127 [(0, .bool b), (1, .int .i64 v), (2, idv id)] = some (offC ⟨b, v, id⟩).toArray := by
  rw [id_range h]
  exact offer_fill b v _
set_option maxRecDepth 100000 in
set_option maxHeartbeats 8000000 in
theorem lay_there {W : World} {B C M n : Nat} {kv : Value} {s : RdS} (h : RoundAt W B C M n kv s) (k : Nat) (hk : k < 12) (vv : Int) (id : List UInt8) (hid : IdOk id) (ht : (s.offers k).there = true) : Calls Try.prog 64 #[.pointer (some ⟨B, 0, none⟩), .int .i64 (k : Int), .int .i64 vv, .agg (idC id)] W fun e w' => (∃ v, e = .returned v) ∧ Below W.heap.size W w' := by
  have HID := Lib.hid hid
  obtain ⟨W1, hW⟩ : ∃ W1, W.alloc (.cells (idC id) 24) = W1 := ⟨_, rfl⟩
  have hb1 : Below W.heap.size W W1 := by rw [← hW]; exact (Below.refl _ _).alloc (Nat.le_refl _) _
  have k1 : Blk W1 W.heap.size 24 (idC id) := by rw [← hW]; exact Blk.new _ _ _
  have HB1 := Lib.hid hb1
  have HK1 := Lib.hid k1
  have HR1 := Lib.hid (h.below hb1)
  have ck : W1.cell? ⟨B, 104 + k * 34, none⟩ = some (.bool true) := by
    rw [HR1.out.cell (i := 104 + k * 34) (by omega), show 104 + k * 34 = 104 + 34 * k + 0 by omega, rdF_offer _ _ _ hk (by omega)]
    unfold offF
    rw [if_pos rfl]
    rw [ht]
  have hkn : (k : Int) < 12 := by omega
  have hk0 : (0 : Int) ≤ (k : Int) := by omega
  have HLD : Hid (∀ W', Below W1.heap.size W1 W' → (Instr.loadAt 24 (.pointer (some ⟨W.heap.size, 0, none⟩))).run Try.prog W' = .ok (idv id) W') := Lib.hid fun W' hb => run_loadVar_idv hid (k1.below hb k1.lt)
  clear hid hb1 k1 h
  go_enter Try.func64, Try.ntmps64
  go_upto_region 1 with fail
  clear hW
  go_wp2_with fail
  go_end0
  exact ⟨⟨_, rfl⟩, HB1.out⟩
set_option maxRecDepth 100000 in
set_option maxHeartbeats 8000000 in
theorem lay_low {W : World} {B C M n : Nat} {kv : Value} {s : RdS} (h : RoundAt W B C M n kv s) (k : Nat) (hk : k < 12) (vv : Int) (id : List UInt8) (hid : IdOk id) (ht : (s.offers k).there = false) (hv : vv < 0) : Calls Try.prog 64 #[.pointer (some ⟨B, 0, none⟩), .int .i64 (k : Int), .int .i64 vv, .agg (idC id)] W fun e w' => (∃ v, e = .returned v) ∧ Below W.heap.size W w' := by
  have HID := Lib.hid hid
  obtain ⟨W1, hW⟩ : ∃ W1, W.alloc (.cells (idC id) 24) = W1 := ⟨_, rfl⟩
  have hb1 : Below W.heap.size W W1 := by rw [← hW]; exact (Below.refl _ _).alloc (Nat.le_refl _) _
  have k1 : Blk W1 W.heap.size 24 (idC id) := by rw [← hW]; exact Blk.new _ _ _
  have HB1 := Lib.hid hb1
  have HK1 := Lib.hid k1
  have HR1 := Lib.hid (h.below hb1)
  have ck : W1.cell? ⟨B, 104 + k * 34, none⟩ = some (.bool false) := by
    rw [HR1.out.cell (i := 104 + k * 34) (by omega), show 104 + k * 34 = 104 + 34 * k + 0 by omega, rdF_offer _ _ _ hk (by omega)]
    unfold offF
    rw [if_pos rfl]
    rw [ht]
  have hkn : (k : Int) < 12 := by omega
  have hk0 : (0 : Int) ≤ (k : Int) := by omega
  have HLD : Hid (∀ W', Below W1.heap.size W1 W' → (Instr.loadAt 24 (.pointer (some ⟨W.heap.size, 0, none⟩))).run Try.prog W' = .ok (idv id) W') := Lib.hid fun W' hb => run_loadVar_idv hid (k1.below hb k1.lt)
  clear hid hb1 k1 h
  go_enter Try.func64, Try.ntmps64
  go_upto_region 1 with fail
  clear hW
  go_wp2_with fail
  go_end0
  exact ⟨⟨_, rfl⟩, HB1.out⟩
set_option maxRecDepth 100000 in
set_option maxHeartbeats 8000000 in
theorem lay_high {W : World} {B C M n : Nat} {kv : Value} {s : RdS} (h : RoundAt W B C M n kv s) (k : Nat) (hk : k < 12) (vv : Int) (id : List UInt8) (hid : IdOk id) (ht : (s.offers k).there = false) (hv : 0 ≤ vv) (hv2 : (k : Int) < vv) : Calls Try.prog 64 #[.pointer (some ⟨B, 0, none⟩), .int .i64 (k : Int), .int .i64 vv, .agg (idC id)] W fun e w' => (∃ v, e = .returned v) ∧ Below W.heap.size W w' := by
  have HID := Lib.hid hid
  obtain ⟨W1, hW⟩ : ∃ W1, W.alloc (.cells (idC id) 24) = W1 := ⟨_, rfl⟩
  have hb1 : Below W.heap.size W W1 := by rw [← hW]; exact (Below.refl _ _).alloc (Nat.le_refl _) _
  have k1 : Blk W1 W.heap.size 24 (idC id) := by rw [← hW]; exact Blk.new _ _ _
  have HB1 := Lib.hid hb1
  have HK1 := Lib.hid k1
  have HR1 := Lib.hid (h.below hb1)
  have ck : W1.cell? ⟨B, 104 + k * 34, none⟩ = some (.bool false) := by
    rw [HR1.out.cell (i := 104 + k * 34) (by omega), show 104 + k * 34 = 104 + 34 * k + 0 by omega, rdF_offer _ _ _ hk (by omega)]
    unfold offF
    rw [if_pos rfl]
    rw [ht]
  have hkn : (k : Int) < 12 := by omega
  have hk0 : (0 : Int) ≤ (k : Int) := by omega
  have HLD : Hid (∀ W', Below W1.heap.size W1 W' → (Instr.loadAt 24 (.pointer (some ⟨W.heap.size, 0, none⟩))).run Try.prog W' = .ok (idv id) W') := Lib.hid fun W' hb => run_loadVar_idv hid (k1.below hb k1.lt)
  clear hid hb1 k1 h
  go_enter Try.func64, Try.ntmps64
  have hv3 : ¬ vv ≤ (k : Int) := by omega
  go_upto_region 1 with fail
  clear hW
  go_wp2_with fail
  go_end0
  exact ⟨⟨_, rfl⟩, HB1.out⟩
set_option maxRecDepth 100000 in
set_option maxHeartbeats 8000000 in
theorem lay_new {W : World} {B C M n : Nat} {kv : Value} {s : RdS} (h : RoundAt W B C M n kv s) (k : Nat) (hk : k < 12) (vv : Int) (id : List UInt8) (hid : IdOk id) (ht : (s.offers k).there = false) (hv : 0 ≤ vv) (hv2 : vv ≤ (k : Int)) : Calls Try.prog 64 #[.pointer (some ⟨B, 0, none⟩), .int .i64 (k : Int), .int .i64 vv, .agg (idC id)] W fun e w' => (∃ v, e = .returned v) ∧ RoundAt w' B C M n kv { s with offers := fun j => if j = k then ⟨true, vv, id⟩ else s.offers j } ∧ W.grownBy w' (some B) := by
  have HID := Lib.hid hid
  obtain ⟨W1, hW⟩ : ∃ W1, W.alloc (.cells (idC id) 24) = W1 := ⟨_, rfl⟩
  have hb1 : Below W.heap.size W W1 := by rw [← hW]; exact (Below.refl _ _).alloc (Nat.le_refl _) _
  have k1 : Blk W1 W.heap.size 24 (idC id) := by rw [← hW]; exact Blk.new _ _ _
  have HB1 := Lib.hid hb1
  have HK1 := Lib.hid k1
  have HR1 := Lib.hid (h.below hb1)
  have ck : W1.cell? ⟨B, 104 + k * 34, none⟩ = some (.bool false) := by
    rw [HR1.out.cell (i := 104 + k * 34) (by omega), show 104 + k * 34 = 104 + 34 * k + 0 by omega, rdF_offer _ _ _ hk (by omega)]
    unfold offF
    rw [if_pos rfl]
    rw [ht]
  have hkn : (k : Int) < 12 := by omega
  have hk0 : (0 : Int) ≤ (k : Int) := by omega
  have HLD : Hid (∀ W', Below W1.heap.size W1 W' → (Instr.loadAt 24 (.pointer (some ⟨W.heap.size, 0, none⟩))).run Try.prog W' = .ok (idv id) W') := Lib.hid fun W' hb => run_loadVar_idv hid (k1.below hb k1.lt)
  have HL0 := Lib.hid h.lt
  clear hid hb1 k1 h
  have HKK := Lib.hid hk
  have HNE : Hid (W.heap.size ≠ B) := Lib.hid (by have := HL0.out; omega)
  have HOK := Lib.hid (HR1.out.ok.lay (k := k) HID.out hv hv2)
  go_enter Try.func64, Try.ntmps64
  go_upto_region 1 with fail
  clear hW
  go_upto_region 2 with fail
  refine wp_region_held_drew (S := fun W' => (Instr.loadAt 24 (.pointer (some ⟨W.heap.size, 0, none⟩))).run Try.prog W' = .ok (idv id) W') (by kernel_rfl) ?_ (fun hHeld => ?_)
  · exact (HLD.out _ (Below.refl _ W1).drew)
  refine tkH (v := ?_) 0 ⟨some 25, _, _, _, _, _⟩ rfl (Or.inl ⟨by rfl, ?_⟩) ?_
  rotate_left
  · intro w hSw; (try dsimp only at hSw); go_simp; try (with_reducible rfl)
  try simp only [Act.put, nz1, nz2, nz3]
  refine tkH (v := ?_) 1 ⟨some 26, _, _, _, _, _⟩ rfl (Or.inl ⟨by rfl, ?_⟩) ?_
  rotate_left
  · intro w hSw; (try dsimp only at hSw); go_simp; try (with_reducible rfl)
  try simp only [Act.put, nz1, nz2, nz3]
  refine tkH (v := ?_) 2 ⟨some 27, _, _, _, _, _⟩ rfl (Or.inl ⟨by rfl, ?_⟩) ?_
  rotate_left
  · intro w hSw; (try dsimp only at hSw); go_simp; try (with_reducible rfl)
  try simp only [Act.put, nz1, nz2, nz3]
  refine tkH (v := (idv id)) 3 ⟨some 28, _, _, _, _, _⟩ rfl (yields_run (by rfl) 24 _ rfl (.pointer (some ⟨W.heap.size, 0, none⟩)) _ rfl (fun W' hS => hS)) ?_
  try simp only [Act.put, nz1, nz2, nz3]
  refine tkH (v := (.agg (offC ⟨true, vv, id⟩).toArray)) 4 ⟨some 29, _, _, _, _, _⟩ rfl (yields_build (by rfl) 127 _ rfl [(0, .bool true), (1, .int .i64 vv), (2, idv id)] rfl _ (offer_built true vv id HID.out)) ?_
  try simp only [Act.put, nz1, nz2, nz3]
  refine tkH (v := ?_) 5 ⟨some 30, _, _, _, _, _⟩ rfl (Or.inl ⟨by rfl, ?_⟩) ?_
  rotate_left
  · intro w hSw; (try dsimp only at hSw); go_simp; try (with_reducible rfl)
  try simp only [Act.put, nz1, nz2, nz3]
  refine tkH (v := ?_) 6 ⟨some 31, _, _, _, _, _⟩ rfl (Or.inl ⟨by rfl, ?_⟩) ?_
  rotate_left
  · intro w hSw; (try dsimp only at hSw); go_simp; try (with_reducible rfl)
  try simp only [Act.put, nz1, nz2, nz3]
  refine tkH (v := ?_) 7 ⟨some 32, _, _, _, _, _⟩ rfl (Or.inl ⟨by rfl, ?_⟩) ?_
  rotate_left
  · intro w hSw; (try dsimp only at hSw); go_simp; try (with_reducible rfl)
  try simp only [Act.put, nz1, nz2, nz3]
  refine wpAnyH_ready (rs := [8]) (by kernel_rfl) (by simp) ?_
  refine (AllReadyH.cons (o := ⟨none, _, _, _, _, _⟩) rfl (fun K hK => ?_) AllReadyH.nil)
  (try rw [if_pos (by rfl)])
  refine oper_store_at 127 _ _ rfl B (104 + k * 34) 549 _ (offC ⟨true, vv, id⟩) (offC_one _) rfl rfl 132 HR1.out.blk.drew (by rw [offC_length HID.out]; kernel_rfl) (by have := HKK.out; rw [offC_length HID.out]; omega) ?_
  intro w9 hw9
  have HW9 := Lib.hid hw9
  clear hw9
  try dsimp only
  refine hK.out _ _ ((by rw [HW9.out]; exact run_loadVar_idv HID.out (HK1.out.drew.setRow_far HNE.out _))) (fun hHeld => ?_)
  clear hK K
  try simp only [Act.put]
  refine wpAnyH_done (by kernel_rfl) ?_ _
  go_wp2_with fail
  go_end0
  have hb9 : Blk w9 B 132 (arr 549 (rdF { s with offers := fun j => if j = k then ⟨true, vv, id⟩ else s.offers j } kv (.pointer (some ⟨C, 0, none⟩)))) := by
    rw [HW9.out, show 104 + k * 34 = 104 + 34 * k by omega]
    exact (HR1.out.blk.drew.setRow _).same (rd_offer s kv _ HKK.out HID.out)
  have hg9 : W1.grownBy w9 (some B) := by rw [HW9.out]; exact grown_trans (grown_of_below (Below.refl _ _).drew _) (grown_row _ _ _)
  exact ⟨⟨_, rfl⟩, HR1.out.put hb9 hg9 rfl rfl rfl HOK.out, grown_trans (grown_of_below HB1.out _) hg9⟩
theorem oper_store_val {P : Program} {o : Oper} {a : Act} {w : World} {K : Act → World → Prop} {Q : Exit → Act → World → Prop} (ty : TypeId) (x y : Operand) (ho : o.op = .store ty x y) (g off N : Nat) (f : Nat → Value) (v : Value) (hc : v.cells = #[v]) (h1 : v.oneCell' = true) (hx : a.eval x = .pointer (some ⟨g, off, none⟩)) (hy : a.eval y = v)
    (t : TypeId) (hg : Blk w g t (arr N f)) (hi : (P.info? ty).map (·.size) = some 1) (hfit : off + 1 ≤ N) (h : ∀ w', w' = w.setRow g (arr N (putW f off [v])) → K (a.put o.dst undef) w') : Oper.wp P o a w K Q := by
  unfold Oper.wp
  have hst := run_storeCells_at (P := P) g off t [v] 0 (arr N f) w hg (by rw [arr_size]; simpa using hfit) (fun u hu => by rw [List.mem_singleton] at hu; rw [hu]; exact h1)
  rw [Nat.add_zero, arr_putW N f off [v] (by simpa using hfit)] at hst
  cases hq : P.info? ty with
  | none => simp [hq] at hi
  | some i =>
    have hs : i.size = 1 := by simpa [hq] using hi
    have := h _ rfl
    simp [execOp, ho, hx, hy, Instr.storeAt, Instr.sureAddr, Sem.run_bind, storeVar, sizeOf, typeInfo, hq, hc, hs, hst, Result.andThen, Oper.upon]
    exact this
set_option maxRecDepth 100000 in
set_option maxHeartbeats 8000000 in
theorem timer_set {W : World} {B C M n : Nat} {kv : Value} {s : RdS} (h : RoundAt W B C M n kv s) (k t : Nat) (hk : s.round = (k : Int)) (ht : t < 3) (hs : s.timers k t = true) : Calls Try.prog 73 #[.pointer (some ⟨B, 0, none⟩), .int .i64 (t : Int)] W fun e w' => e = .returned (.slice none 0 0) ∧ Below W.heap.size W w' := by
  have hk12 : k < 12 := by have := h.ok.round.2; omega
  have hkn : (k : Int) < 12 := by omega
  have hk0 : (0 : Int) ≤ (k : Int) := by omega
  have htn : (t : Int) < 3 := by omega
  have ht0 : (0 : Int) ≤ (t : Int) := by omega
  have HT : Hid (∀ W', RoundAt W' B C M n kv s → W'.cell? ⟨B, 512 + k * 3 + t, none⟩ = some (.bool true)) := Lib.hid fun W' h' => by
    rw [h'.cell (i := 512 + k * 3 + t) (by omega), show 512 + k * 3 + t = 512 + 3 * k + t by omega, rdF_timer _ _ _ hk12 ht, hs]
  have HK := Lib.hid hk
  have HR := Lib.hid h
  clear h hk hs
  go_enter Try.func73, Try.ntmps73
  go_upto_region 1 with fail
  refine wp_region_held_drew (S := fun W' => RoundAt W' B C M n kv s) (by kernel_rfl) ?_ (fun hHeld => ?_)
  · exact (HR.out.below (Below.refl _ W).drew)
  refine tkH (v := ?_) 0 ⟨some 5, _, _, _, _, _⟩ rfl (Or.inl ⟨by rfl, ?_⟩) ?_
  rotate_left
  · intro w hSw; (try dsimp only at hSw); go_simp; try (with_reducible rfl)
  try simp only [Act.put, nz1, nz2, nz3]
  refine tkH (v := ?_) 1 ⟨some 6, _, _, _, _, _⟩ rfl (Or.inl ⟨by rfl, ?_⟩) ?_
  rotate_left
  · intro w hSw; (try dsimp only at hSw); go_simp; try (with_reducible rfl)
  try simp only [Act.put, nz1, nz2, nz3]
  refine tkH (v := ?_) 2 ⟨some 7, _, _, _, _, _⟩ rfl (Or.inl ⟨by rfl, ?_⟩) ?_
  rotate_left
  · intro w hSw; (try dsimp only at hSw); go_simp; try (with_reducible rfl)
  try simp only [Act.put, nz1, nz2, nz3]
  refine tkH (v := ?_) 3 ⟨some 8, _, _, _, _, _⟩ rfl (Or.inl ⟨by rfl, ?_⟩) ?_
  rotate_left
  · intro w hSw; (try dsimp only at hSw); go_simp; try (with_reducible rfl)
  try simp only [Act.put, nz1, nz2, nz3]
  refine tkH (v := (.int .i64 (k : Int))) 4 ⟨some 9, _, _, _, _, _⟩ rfl (yields_one (by rfl) 3 _ rfl ⟨B, 3, none⟩ rfl _ _ (fun W' hS => by rw [← HK.out]; exact hS.cell (i := 3) (by omega)) Try.underlying3 rfl) ?_
  try simp only [Act.put, nz1, nz2, nz3]
  refine tkH (v := ?_) 5 ⟨some 10, _, _, _, _, _⟩ rfl (Or.inl ⟨by rfl, ?_⟩) ?_
  rotate_left
  · intro w hSw; (try dsimp only at hSw); go_simp; try (with_reducible rfl)
  try simp only [Act.put, nz1, nz2, nz3]
  refine tkH (v := ?_) 6 ⟨some 11, _, _, _, _, _⟩ rfl (Or.inl ⟨by rfl, ?_⟩) ?_
  rotate_left
  · intro w hSw; (try dsimp only at hSw); go_simp; try (with_reducible rfl)
  try simp only [Act.put, nz1, nz2, nz3]
  refine tkH (v := ?_) 7 ⟨some 12, _, _, _, _, _⟩ rfl (Or.inl ⟨by rfl, ?_⟩) ?_
  rotate_left
  · intro w hSw; (try dsimp only at hSw); go_simp; try (with_reducible rfl)
  try simp only [Act.put, nz1, nz2, nz3]
  refine tkH (v := ?_) 8 ⟨some 13, _, _, _, _, _⟩ rfl (Or.inl ⟨by rfl, ?_⟩) ?_
  rotate_left
  · intro w hSw; (try dsimp only at hSw); go_simp; try (with_reducible rfl)
  try simp only [Act.put, nz1, nz2, nz3]
  refine tkH (v := ?_) 9 ⟨some 14, _, _, _, _, _⟩ rfl (Or.inl ⟨by rfl, ?_⟩) ?_
  rotate_left
  · intro w hSw; (try dsimp only at hSw); go_simp; try (with_reducible rfl)
  try simp only [Act.put, nz1, nz2, nz3]
  refine tkH (v := (.bool true)) 10 ⟨some 15, _, _, _, _, _⟩ rfl (yields_one (by rfl) 4 _ rfl ⟨B, 512 + k * 3 + t, none⟩ rfl _ _ (fun W' hS => HT.out W' hS) Try.underlying4 rfl) ?_
  try simp only [Act.put, nz1, nz2, nz3]
  refine wpAnyH_done (by kernel_rfl) ?_ _
  go_wp2_with fail
  go_ret
  exact ⟨rfl, (Below.refl _ W).drew⟩
/-- What a call hands back: acts, in a row of its own. -/
def ActsR (W w' : World) (v : Value) (l : List ActS) : Prop := (∀ x ∈ l, ActOk x) ∧ l.length ≤ 1000000 ∧ w'.ownsRow W.heap.size 71 36 v l.length (actsC l)
theorem actOk_mk {a b c d : Int} {id : List UInt8} (hid : IdOk id) (ha : -1000000 ≤ a ∧ a ≤ 1000000) (hb : -1000000 ≤ b ∧ b ≤ 1000000) (hc : -1000000 ≤ c ∧ c ≤ 1000000) (hd : -1000000 ≤ d ∧ d ≤ 1000000) : ActOk ⟨a, b, c, d, id⟩ :=
  ⟨hid, wfi_small ha.1 ha.2, wfi_small hb.1 hb.2, wfi_small hc.1 hc.2, wfi_small hd.1 hd.2⟩
theorem actsR_nil (W w' : World) : ActsR W w' (.slice none 0 0) [] := ⟨fun _ h => by simp at h, by simp, World.ownsRow_nil _ _ _ _⟩
theorem ActsR.mono {W0 W w1 : World} {v : Value} {l : List ActS} (h : ActsR W w1 v l) (hs : W0.heap.size ≤ W.heap.size) : ActsR W0 w1 v l := by
  refine ⟨h.1, h.2.1, h.2.2.1, ?_⟩
  rcases h.2.2.2 with h0 | ⟨g, cap, cur, h1, h2, h3⟩
  · exact .inl h0
  · exact .inr ⟨g, cap, cur, h1, Nat.le_trans hs h2, h3⟩
theorem actsR_one {W w1 : World} {a : ActS} (ha : ActOk a) (hs : W.heap.size ≤ w1.heap.size) : ActsR W (w1.alloc (.cells (actA a) 71)) (.slice (some ⟨w1.heap.size, 0, none⟩) 1 1) [a] := by
  have hz : (actA a).size = 36 := actA_size ha
  refine ⟨fun x hx => by rw [List.mem_singleton] at hx; rw [hx]; exact ha, by simp, by rw [actsC_length (fun x hx => by rw [List.mem_singleton] at hx; rw [hx]; exact ha)], .inr ⟨w1.heap.size, 1, actA a, rfl, hs, heap_alloc_new w1 _, Nat.le_refl _, by unfold maxLen; omega, by rw [hz], ?_⟩⟩
  have e : actsC [a] = (actA a).toList := by simp [actsC, actA]
  rw [e, List.take_of_length_le (by rw [Array.length_toList, hz]; simp)]
theorem timer_ok {s : RdS} (h : RdOk s) (f : Nat → Nat → Bool) : RdOk { s with timers := f } := ⟨h.voters, h.me, h.height, h.round, h.step, h.early, h.fresh, h.lockR, h.lock, h.bestR, h.best, h.known, h.le, h.offers⟩
def timS (s : RdS) (k t : Nat) : RdS := { s with timers := fun j u => if j = k ∧ u = t then true else s.timers j u }
set_option maxRecDepth 100000 in
set_option maxHeartbeats 8000000 in
theorem timer_new {W : World} {B C M n : Nat} {kv : Value} {s : RdS} (h : RoundAt W B C M n kv s) (k t : Nat) (hk : s.round = (k : Int)) (ht : t < 3) (hs : s.timers k t = false) : Calls Try.prog 73 #[.pointer (some ⟨B, 0, none⟩), .int .i64 (t : Int)] W fun e w' => (∃ v, e = .returned v ∧ ActsR W w' v [⟨3, (k : Int), (t : Int), 0, zeroId⟩]) ∧ RoundAt w' B C M n kv (timS s k t) ∧ W.grownBy w' (some B) := by
  have hk12 : k < 12 := by have := h.ok.round.2; omega
  have hkn : (k : Int) < 12 := by omega
  have hk0 : (0 : Int) ≤ (k : Int) := by omega
  have htn : (t : Int) < 3 := by omega
  have ht0 : (0 : Int) ≤ (t : Int) := by omega
  have HT : Hid (∀ W', RoundAt W' B C M n kv s → W'.cell? ⟨B, 512 + k * 3 + t, none⟩ = some (.bool false)) := Lib.hid fun W' h' => by
    rw [h'.cell (i := 512 + k * 3 + t) (by omega), show 512 + k * 3 + t = 512 + 3 * k + t by omega, rdF_timer _ _ _ hk12 ht, hs]
  have HK := Lib.hid hk
  have HKT := Lib.hid (And.intro hk12 ht)
  have HR := Lib.hid h
  have HFIN : Hid (∀ w9, Blk w9 B 132 (arr 549 (rdF (timS s k t) kv (.pointer (some ⟨C, 0, none⟩)))) → W.grownBy w9 (some B) → RoundAt (w9.alloc (.cells (actA ⟨3, (k : Int), (t : Int), 0, zeroId⟩) 71)) B C M n kv (timS s k t) ∧ W.grownBy (w9.alloc (.cells (actA ⟨3, (k : Int), (t : Int), 0, zeroId⟩) 71)) (some B)) := Lib.hid fun w9 hb hg => by
    have hba : Below w9.heap.size w9 (w9.alloc (.cells (actA ⟨3, (k : Int), (t : Int), 0, zeroId⟩) 71)) := (Below.refl _ w9).alloc (Nat.le_refl _) _
    exact ⟨(HR.out.put hb hg rfl rfl rfl (timer_ok HR.out.ok _)).below hba, grown_trans hg (grown_of_below hba _)⟩
  clear h hk hs hk12 ht
  go_enter Try.func73, Try.ntmps73
  go_upto_region 1 with fail
  refine wp_region_held_drew (S := fun W' => RoundAt W' B C M n kv s) (by kernel_rfl) ?_ (fun hHeld => ?_)
  · exact (HR.out.below (Below.refl _ W).drew)
  refine tkH (v := ?_) 0 ⟨some 5, _, _, _, _, _⟩ rfl (Or.inl ⟨by rfl, ?_⟩) ?_
  rotate_left
  · intro w hSw; (try dsimp only at hSw); go_simp; try (with_reducible rfl)
  try simp only [Act.put, nz1, nz2, nz3]
  refine tkH (v := ?_) 1 ⟨some 6, _, _, _, _, _⟩ rfl (Or.inl ⟨by rfl, ?_⟩) ?_
  rotate_left
  · intro w hSw; (try dsimp only at hSw); go_simp; try (with_reducible rfl)
  try simp only [Act.put, nz1, nz2, nz3]
  refine tkH (v := ?_) 2 ⟨some 7, _, _, _, _, _⟩ rfl (Or.inl ⟨by rfl, ?_⟩) ?_
  rotate_left
  · intro w hSw; (try dsimp only at hSw); go_simp; try (with_reducible rfl)
  try simp only [Act.put, nz1, nz2, nz3]
  refine tkH (v := ?_) 3 ⟨some 8, _, _, _, _, _⟩ rfl (Or.inl ⟨by rfl, ?_⟩) ?_
  rotate_left
  · intro w hSw; (try dsimp only at hSw); go_simp; try (with_reducible rfl)
  try simp only [Act.put, nz1, nz2, nz3]
  refine tkH (v := (.int .i64 (k : Int))) 4 ⟨some 9, _, _, _, _, _⟩ rfl (yields_one (by rfl) 3 _ rfl ⟨B, 3, none⟩ rfl _ _ (fun W' hS => by rw [← HK.out]; exact hS.cell (i := 3) (by omega)) Try.underlying3 rfl) ?_
  try simp only [Act.put, nz1, nz2, nz3]
  refine tkH (v := ?_) 5 ⟨some 10, _, _, _, _, _⟩ rfl (Or.inl ⟨by rfl, ?_⟩) ?_
  rotate_left
  · intro w hSw; (try dsimp only at hSw); go_simp; try (with_reducible rfl)
  try simp only [Act.put, nz1, nz2, nz3]
  refine tkH (v := ?_) 6 ⟨some 11, _, _, _, _, _⟩ rfl (Or.inl ⟨by rfl, ?_⟩) ?_
  rotate_left
  · intro w hSw; (try dsimp only at hSw); go_simp; try (with_reducible rfl)
  try simp only [Act.put, nz1, nz2, nz3]
  refine tkH (v := ?_) 7 ⟨some 12, _, _, _, _, _⟩ rfl (Or.inl ⟨by rfl, ?_⟩) ?_
  rotate_left
  · intro w hSw; (try dsimp only at hSw); go_simp; try (with_reducible rfl)
  try simp only [Act.put, nz1, nz2, nz3]
  refine tkH (v := ?_) 8 ⟨some 13, _, _, _, _, _⟩ rfl (Or.inl ⟨by rfl, ?_⟩) ?_
  rotate_left
  · intro w hSw; (try dsimp only at hSw); go_simp; try (with_reducible rfl)
  try simp only [Act.put, nz1, nz2, nz3]
  refine tkH (v := ?_) 9 ⟨some 14, _, _, _, _, _⟩ rfl (Or.inl ⟨by rfl, ?_⟩) ?_
  rotate_left
  · intro w hSw; (try dsimp only at hSw); go_simp; try (with_reducible rfl)
  try simp only [Act.put, nz1, nz2, nz3]
  refine tkH (v := (.bool false)) 10 ⟨some 15, _, _, _, _, _⟩ rfl (yields_one (by rfl) 4 _ rfl ⟨B, 512 + k * 3 + t, none⟩ rfl _ _ (fun W' hS => HT.out W' hS) Try.underlying4 rfl) ?_
  try simp only [Act.put, nz1, nz2, nz3]
  refine wpAnyH_done (by kernel_rfl) ?_ _
  have HBD : Hid (Below W.heap.size W W.drew.drew) := Lib.hid (Below.refl _ W).drew.drew
  have HRD := Lib.hid (HR.out.below HBD.out)
  go_upto_region 3 with fail
  refine wp_region_held_drew (S := fun W' => W'.cell? ⟨B, 3, none⟩ = some (.int .i64 (k : Int))) (by kernel_rfl) ?_ (fun hHeld => ?_)
  · exact (by rw [← HK.out]; exact HRD.out.cell (i := 3) (by omega))
  refine tkH (v := ?_) 0 ⟨some 16, _, _, _, _, _⟩ rfl (Or.inl ⟨by rfl, ?_⟩) ?_
  rotate_left
  · intro w hSw; (try dsimp only at hSw); go_simp; try (with_reducible rfl)
  try simp only [Act.put, nz1, nz2, nz3]
  refine tkH (v := ?_) 1 ⟨some 17, _, _, _, _, _⟩ rfl (Or.inl ⟨by rfl, ?_⟩) ?_
  rotate_left
  · intro w hSw; (try dsimp only at hSw); go_simp; try (with_reducible rfl)
  try simp only [Act.put, nz1, nz2, nz3]
  refine tkH (v := ?_) 2 ⟨some 18, _, _, _, _, _⟩ rfl (Or.inl ⟨by rfl, ?_⟩) ?_
  rotate_left
  · intro w hSw; (try dsimp only at hSw); go_simp; try (with_reducible rfl)
  try simp only [Act.put, nz1, nz2, nz3]
  refine tkH (v := ?_) 3 ⟨some 19, _, _, _, _, _⟩ rfl (Or.inl ⟨by rfl, ?_⟩) ?_
  rotate_left
  · intro w hSw; (try dsimp only at hSw); go_simp; try (with_reducible rfl)
  try simp only [Act.put, nz1, nz2, nz3]
  refine tkH (v := (.int .i64 (k : Int))) 4 ⟨some 20, _, _, _, _, _⟩ rfl (yields_one (by rfl) 3 _ rfl ⟨B, 3, none⟩ rfl _ _ (fun W' hS => hS) Try.underlying3 rfl) ?_
  try simp only [Act.put, nz1, nz2, nz3]
  refine tkH (v := ?_) 5 ⟨some 21, _, _, _, _, _⟩ rfl (Or.inl ⟨by rfl, ?_⟩) ?_
  rotate_left
  · intro w hSw; (try dsimp only at hSw); go_simp; try (with_reducible rfl)
  try simp only [Act.put, nz1, nz2, nz3]
  refine tkH (v := ?_) 6 ⟨some 22, _, _, _, _, _⟩ rfl (Or.inl ⟨by rfl, ?_⟩) ?_
  rotate_left
  · intro w hSw; (try dsimp only at hSw); go_simp; try (with_reducible rfl)
  try simp only [Act.put, nz1, nz2, nz3]
  refine tkH (v := ?_) 7 ⟨some 23, _, _, _, _, _⟩ rfl (Or.inl ⟨by rfl, ?_⟩) ?_
  rotate_left
  · intro w hSw; (try dsimp only at hSw); go_simp; try (with_reducible rfl)
  try simp only [Act.put, nz1, nz2, nz3]
  refine tkH (v := ?_) 8 ⟨some 24, _, _, _, _, _⟩ rfl (Or.inl ⟨by rfl, ?_⟩) ?_
  rotate_left
  · intro w hSw; (try dsimp only at hSw); go_simp; try (with_reducible rfl)
  try simp only [Act.put, nz1, nz2, nz3]
  refine tkH (v := ?_) 9 ⟨some 25, _, _, _, _, _⟩ rfl (Or.inl ⟨by rfl, ?_⟩) ?_
  rotate_left
  · intro w hSw; (try dsimp only at hSw); go_simp; try (with_reducible rfl)
  try simp only [Act.put, nz1, nz2, nz3]
  refine wpAnyH_ready (rs := [10]) (by kernel_rfl) (by simp) ?_
  refine (AllReadyH.cons (o := ⟨none, _, _, _, _, _⟩) rfl (fun K hK => ?_) AllReadyH.nil)
  (try rw [if_pos (by rfl)])
  refine oper_store_val 4 _ _ rfl B (512 + k * 3 + t) 549 _ (.bool true) rfl rfl rfl rfl 132 HRD.out.blk (by kernel_rfl) (by have := HKT.out; omega) ?_
  intro w9 hw9
  have HBK9 : Hid (Blk w9 B 132 (arr 549 (rdF (timS s k t) kv (.pointer (some ⟨C, 0, none⟩))))) := Lib.hid (by rw [hw9, show 512 + k * 3 + t = 512 + 3 * k + t by omega]; exact (HRD.out.blk.setRow _).same (rd_timer s kv _ HKT.out.1 HKT.out.2))
  have HG9 : Hid (W.grownBy w9 (some B)) := Lib.hid (by rw [hw9]; exact grown_trans (grown_of_below (HBD.out) _) (grown_row _ _ _))
  clear hw9
  have HC9 : Hid (w9.cell? ⟨B, 3, none⟩ = some (.int .i64 (k : Int))) := Lib.hid (by rw [HBK9.out.cell, arr_get, if_pos (by omega), ← HK.out]; rfl)
  try dsimp only
  refine hK.out _ _ (HC9.out) (fun hHeld => ?_)
  clear hK K
  try simp only [Act.put]
  refine wpAnyH_done (by kernel_rfl) ?_ _
  have c3 := HC9.out
  have HACT : Hid (ActOk ⟨3, (k : Int), (t : Int), 0, zeroId⟩) := Lib.hid (actOk_mk zeroId_ok (by omega) (by omega) (by omega) (by omega))
  go_wp2_with (first
    | (guard_target = wpList _ _ _ (Oper.mk _ (.build _ _) _ _ _ _ :: _) _ _; refine wpList_buildTo (by rfl) 71 _ rfl (actA ⟨3, (k : Int), (t : Int), 0, zeroId⟩) (timer_built _ _) ?_)
    | (guard_target = wpList _ _ _ (Oper.mk _ (.buildSlice _ _ _) _ _ _ _ :: _) _ _; refine wpList_build_actL rfl _ rfl ⟨3, (k : Int), (t : Int), 0, zeroId⟩ HACT.out rfl ?_))
  go_ret
  exact ⟨⟨_, rfl, actsR_one HACT.out HG9.out.size⟩, HFIN.out w9 HBK9.out HG9.out⟩
end Go.Proofs.Ytbgojlcciealiaa
