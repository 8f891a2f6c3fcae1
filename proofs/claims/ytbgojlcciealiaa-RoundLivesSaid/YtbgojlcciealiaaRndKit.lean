/-
  What one's way to agreement lies in: a block of 549 cells; marks, offers, timers; loads and stores of its parts. No condition.
-/
import Derived.Test.YtbgojlcciealiaaQBits
import Derived.Test.YtbgojlcciealiaaRndIds
namespace Go.Proofs.Ytbgojlcciealiaa
open Go Go.RowKit Go.Maps

/-- An offer: is there one, the round behind which it was voted for, and one; what. -/
structure OfferS where
  there : Bool
  valid : Int
  id : List UInt8
/-- One's way to agreement. -/
structure RdS where
  voters : Nat
  me : Int
  height : Int
  round : Int
  step : Int
  fresh : List UInt8
  lockR : Int
  lock : List UInt8
  bestR : Int
  best : List UInt8
  known : List (List UInt8)
  offers : Nat → OfferS
  timers : Nat → Nat → Bool
  votes : Vt
def markF (r : Int) (l : List UInt8) (i : Nat) : Value := if i = 0 then .int .i64 r else Extern.Stop.cell (l.getD (i - 1) 0)
def offF (o : OfferS) (i : Nat) : Value := if i = 0 then .bool o.there else if i = 1 then .int .i64 o.valid else Extern.Stop.cell (o.id.getD (i - 2) 0)
/-- The block's cells. -/
def rdF (s : RdS) (kv cp : Value) (i : Nat) : Value :=
  if i < 5 then [Value.int .i64 s.voters, .int .i64 s.me, .int .i64 s.height, .int .i64 s.round, .int .i64 s.step].getD i undef
  else if i < 37 then Extern.Stop.cell (s.fresh.getD (i - 5) 0)
  else if i < 70 then markF s.lockR s.lock (i - 37)
  else if i < 103 then markF s.bestR s.best (i - 70)
  else if i < 104 then kv
  else if i < 512 then offF (s.offers ((i - 104) / 34)) ((i - 104) % 34)
  else if i < 548 then .bool (s.timers ((i - 512) / 3) ((i - 512) % 3))
  else cp
theorem rdF_fresh (s : RdS) (kv cp : Value) {i : Nat} (hi : i < 32) : rdF s kv cp (5 + i) = Extern.Stop.cell (s.fresh.getD i 0) := by
  unfold rdF
  rw [if_neg (by omega), if_pos (by omega), Nat.add_sub_cancel_left]
theorem rdF_lock (s : RdS) (kv cp : Value) {i : Nat} (hi : i < 32) : rdF s kv cp (38 + i) = Extern.Stop.cell (s.lock.getD i 0) := by
  unfold rdF markF
  rw [if_neg (by omega), if_neg (by omega), if_pos (by omega), if_neg (by omega), show 38 + i - 37 - 1 = i by omega]
theorem rdF_best (s : RdS) (kv cp : Value) {i : Nat} (hi : i < 32) : rdF s kv cp (71 + i) = Extern.Stop.cell (s.best.getD i 0) := by
  unfold rdF markF
  rw [if_neg (by omega), if_neg (by omega), if_neg (by omega), if_pos (by omega), if_neg (by omega), show 71 + i - 70 - 1 = i by omega]
theorem rdF_offer (s : RdS) (kv cp : Value) {k i : Nat} (hk : k < 12) (hi : i < 34) : rdF s kv cp (104 + 34 * k + i) = offF (s.offers k) i := by
  unfold rdF
  rw [if_neg (by omega), if_neg (by omega), if_neg (by omega), if_neg (by omega), if_neg (by omega), if_pos (by omega), show 104 + 34 * k + i - 104 = i + 34 * k by omega, Nat.add_mul_div_left _ _ (by omega), Nat.add_mul_mod_self_left, Nat.div_eq_of_lt hi, Nat.mod_eq_of_lt hi, Nat.zero_add]
theorem rdF_timer (s : RdS) (kv cp : Value) {k i : Nat} (hk : k < 12) (hi : i < 3) : rdF s kv cp (512 + 3 * k + i) = .bool (s.timers k i) := by
  unfold rdF
  rw [if_neg (by omega), if_neg (by omega), if_neg (by omega), if_neg (by omega), if_neg (by omega), if_neg (by omega), if_pos (by omega), show 512 + 3 * k + i - 512 = i + 3 * k by omega, Nat.add_mul_div_left _ _ (by omega), Nat.add_mul_mod_self_left, Nat.div_eq_of_lt hi, Nat.mod_eq_of_lt hi, Nat.zero_add]
/-- The numbers are such as they may be. -/
structure RdOk (s : RdS) : Prop where
  voters : 1 ≤ s.voters ∧ s.voters ≤ 1000 ∧ 0 ≤ faults s.voters
  me : 0 ≤ s.me ∧ s.me < s.voters
  height : 0 ≤ s.height ∧ wfi s.height
  round : -1 ≤ s.round ∧ s.round < 12
  step : 0 ≤ s.step ∧ s.step ≤ 3
  early : s.round = -1 → s.step = 3
  fresh : IdOk s.fresh
  lockR : 0 ≤ s.lockR ∧ s.lockR ≤ 12
  lock : IdOk s.lock
  bestR : 0 ≤ s.bestR ∧ s.bestR ≤ 12
  best : IdOk s.best
  known : s.known.length ≤ 32 ∧ ∀ x ∈ s.known, IdOk x
  le : s.bestR ≤ s.round + 1
  offers : ∀ k, k < 12 → IdOk (s.offers k).id ∧ 0 ≤ (s.offers k).valid ∧ (s.offers k).valid ≤ k
/-- One's way to agreement in block B, its votes' count in C, their map in M. -/
structure RoundAt (W : World) (B C M n : Nat) (kv : Value) (s : RdS) : Prop where
  blk : Blk W B 132 (arr 549 (rdF s kv (.pointer (some ⟨C, 0, none⟩))))
  cnt : CountAt W C M n s.voters s.votes
  own : W.ownsRow 0 24 32 kv s.known.length (idsC s.known)
  ok : RdOk s
theorem RoundAt.known {W : World} {B C M n : Nat} {kv : Value} {s : RdS} (h : RoundAt W B C M n kv s) : RdI W W.heap.size kv s.known := rdI_own h.own h.ok.known.2 rfl (by have := h.ok.known.1; omega)
theorem blk_ne {W : World} {B C t u : Nat} {cs ds : Array Value} (h : Blk W B t cs) (k : Blk W C u ds) (hne : t ≠ u) : B ≠ C := fun e => by
  subst e
  unfold Blk at h k
  rw [h] at k
  injection k with k
  injection k with _ k
  exact hne k
theorem RoundAt.neC {W : World} {B C M n : Nat} {kv : Value} {s : RdS} (h : RoundAt W B C M n kv s) : B ≠ C := blk_ne h.blk h.cnt.blk (by decide)
theorem RoundAt.neM {W : World} {B C M n : Nat} {kv : Value} {s : RdS} (h : RoundAt W B C M n kv s) : B ≠ M := by
  rintro rfl
  obtain ⟨T, ⟨D, ⟨es, c, h2, _⟩, _⟩, _⟩ := h.cnt.votes
  have h1 := h.blk
  unfold Blk at h1
  rw [h1] at h2
  cases h2
theorem RoundAt.neK {W : World} {B C M n : Nat} {kv : Value} {s : RdS} (h : RoundAt W B C M n kv s) : kv.ownBlock ≠ some B := fun e => by
  rcases h.own.2 with ⟨rfl, _⟩ | ⟨g, cap, cur, rfl, _, hg, _⟩
  · cases e
  · injection e with e
    exact blk_ne (B := g) (cs := cur) hg h.blk (by decide) e
/-- A store into the block alone. -/
theorem RoundAt.put {W W' : World} {B C M n : Nat} {kv : Value} {s s' : RdS} (h : RoundAt W B C M n kv s) (hb : Blk W' B 132 (arr 549 (rdF s' kv (.pointer (some ⟨C, 0, none⟩))))) (hg : W.grownBy W' (some B)) (h1 : s'.voters = s.voters) (h2 : s'.votes = s.votes) (h3 : s'.known = s.known) (hok : RdOk s') : RoundAt W' B C M n kv s' := by
  refine ⟨hb, ?_, ?_, hok⟩
  · rw [h1, h2]
    exact h.cnt.same (hg.block C h.cnt.ltB fun e => h.neC (Option.some.inj e).symm) (hg.block M h.cnt.ltM fun e => h.neM (Option.some.inj e).symm)
  · rw [h3]
    exact h.own.kept hg (.inr h.neK)
theorem RoundAt.below {W W' : World} {B C M n : Nat} {kv : Value} {s : RdS} (h : RoundAt W B C M n kv s) (hb : Below W.heap.size W W') : RoundAt W' B C M n kv s :=
  ⟨h.blk.below hb h.blk.lt, h.cnt.below hb, rowV_kept h.own hb, h.ok⟩
theorem RoundAt.cell {W : World} {B C M n : Nat} {kv : Value} {s : RdS} (h : RoundAt W B C M n kv s) {i : Nat} (hi : i < 549) : W.cell? ⟨B, i, none⟩ = some (rdF s kv (.pointer (some ⟨C, 0, none⟩)) i) := by
  rw [h.blk.cell, arr_get, if_pos hi]
theorem RoundAt.lt {W : World} {B C M n : Nat} {kv : Value} {s : RdS} (h : RoundAt W B C M n kv s) : B < W.heap.size := h.blk.lt
/-- An ID that lies within a block. -/
theorem load_id_at {W : World} {B off N : Nat} {ty : TypeId} {f : Nat → Value} (h : Blk W B ty (arr N f)) (hfit : off + 32 ≤ N) {l : List UInt8} (hl : IdOk l) (hf : ∀ i, i < 32 → f (off + i) = Extern.Stop.cell (l.getD i 0)) : (Instr.loadAt 24 (.pointer (some ⟨B, off, none⟩))).run Try.prog W = .ok (idv l) W :=
  run_load_id W _ l hl fun i hi => by
    rw [show (⟨B, off, none⟩ : Addr).add i = ⟨B, off + i, none⟩ by simp [Addr.add], h.cell, arr_get, if_pos (by omega), hf i hi]
theorem RoundAt.loadFresh {W : World} {B C M n : Nat} {kv : Value} {s : RdS} (h : RoundAt W B C M n kv s) : (Instr.loadAt 24 (.pointer (some ⟨B, 5, none⟩))).run Try.prog W = .ok (idv s.fresh) W :=
  load_id_at h.blk (by omega) h.ok.fresh fun _ hi => rdF_fresh _ _ _ hi
theorem RoundAt.loadLock {W : World} {B C M n : Nat} {kv : Value} {s : RdS} (h : RoundAt W B C M n kv s) : (Instr.loadAt 24 (.pointer (some ⟨B, 38, none⟩))).run Try.prog W = .ok (idv s.lock) W :=
  load_id_at h.blk (by omega) h.ok.lock fun _ hi => rdF_lock _ _ _ hi
theorem RoundAt.loadBest {W : World} {B C M n : Nat} {kv : Value} {s : RdS} (h : RoundAt W B C M n kv s) : (Instr.loadAt 24 (.pointer (some ⟨B, 71, none⟩))).run Try.prog W = .ok (idv s.best) W :=
  load_id_at h.blk (by omega) h.ok.best fun _ hi => rdF_best _ _ _ hi
/-- A part of a block's cells put anew. -/
def putW (f : Nat → Value) (off : Nat) (xs : List Value) : Nat → Value := fun i => if off ≤ i ∧ i < off + xs.length then xs.getD (i - off) undef else f i
theorem arr_putW (N : Nat) (f : Nat → Value) (off : Nat) (xs : List Value) (hfit : off + xs.length ≤ N) : ((arr N f).toList.take off ++ xs ++ (arr N f).toList.drop (off + xs.length)).toArray = arr N (putW f off xs) := by
  apply Array.ext'
  apply List.ext_getElem?
  intro i
  have hl : (arr N f).toList.length = N := by rw [Array.length_toList, arr_size]
  have hg : ∀ (G : Nat → Value) j, (arr N G).toList[j]? = if j < N then some (G j) else none := fun G j => by rw [Array.getElem?_toList, arr_get]
  rw [hg]
  unfold putW
  by_cases h1 : i < off
  · rw [List.append_assoc, List.getElem?_append_left (by rw [List.length_take, hl]; omega), List.getElem?_take, if_pos h1, hg, if_neg (show ¬ (off ≤ i ∧ i < off + xs.length) by omega)]
  · by_cases h2 : i < off + xs.length
    · rw [List.getElem?_append_left (by rw [List.length_append, List.length_take, hl]; omega), List.getElem?_append_right (by rw [List.length_take, hl]; omega), List.length_take, hl, if_pos (show i < N by omega), if_pos (show off ≤ i ∧ i < off + xs.length by omega), show i - min off N = i - off by omega, List.getD_eq_getElem?_getD, List.getElem?_eq_getElem (by omega)]
      rfl
    · rw [List.getElem?_append_right (by rw [List.length_append, List.length_take, hl]; omega), List.length_append, List.length_take, hl, List.getElem?_drop, show off + xs.length + (i - (min off N + xs.length)) = i by omega, hg, if_neg (show ¬ (off ≤ i ∧ i < off + xs.length) by omega)]
section
variable {P : Program} {o : Oper} {a : Act} {w : World} {K : Act → World → Prop} {Q : Exit → Act → World → Prop} {ops : Array Oper} {rest : List Oper}
theorem oper_store_at (ty : TypeId) (x y : Operand) (ho : o.op = .store ty x y) (g off N : Nat) (f : Nat → Value) (xs : List Value) (h1 : ∀ u ∈ xs, u.oneCell' = true) (hx : a.eval x = .pointer (some ⟨g, off, none⟩)) (hy : a.eval y = .agg xs.toArray)
    (t : TypeId) (hg : Blk w g t (arr N f)) (hi : (P.info? ty).map (·.size) = some xs.length) (hfit : off + xs.length ≤ N) (h : ∀ w', w' = w.setRow g (arr N (putW f off xs)) → K (a.put o.dst undef) w') : Oper.wp P o a w K Q := by
  unfold Oper.wp
  have hst := run_storeCells_at (P := P) g off t xs 0 (arr N f) w hg (by rw [arr_size]; omega) h1
  rw [Nat.add_zero, arr_putW N f off xs hfit] at hst
  cases hq : P.info? ty with
  | none => simp [hq] at hi
  | some i =>
    have hs : xs.length = i.size := by simp [hq] at hi; omega
    have := h _ rfl
    simp [execOp, ho, hx, hy, Instr.storeAt, Instr.sureAddr, Sem.run_bind, storeVar, sizeOf, typeInfo, hq, Value.cells, hs, hst, Result.andThen, Oper.upon]
    exact this
theorem wpList_store_at (hgd : o.guard = none) (ty : TypeId) (x y : Operand) (ho : o.op = .store ty x y) (g off N : Nat) (f : Nat → Value) (xs : List Value) (h1 : ∀ u ∈ xs, u.oneCell' = true) (hx : a.eval x = .pointer (some ⟨g, off, none⟩)) (hy : a.eval y = .agg xs.toArray)
    (t : TypeId) (hg : Blk w g t (arr N f)) (hi : (P.info? ty).map (·.size) = some xs.length) (hfit : off + xs.length ≤ N) (h : ∀ w', w' = w.setRow g (arr N (putW f off xs)) → wpList P ops Q rest (a.put o.dst undef) w') : wpList P ops Q (o :: rest) a w :=
  wpList_plain hgd fun _ hK => oper_store_at ty x y ho g off N f xs h1 hx hy t hg hi hfit fun w' hw => hK _ _ (h w' hw)
end
theorem setCell_arr {w : World} {g t N : Nat} {f : Nat → Value} (h : Blk w g t (arr N f)) {i : Nat} (hi : i < N) (v : Value) : Blk (w.setCell ⟨g, i, none⟩ v) g t (arr N (putW f i [v])) := by
  refine (h.store i _).same ?_
  apply Array.ext'
  apply List.ext_getElem?
  intro j
  rw [Array.getElem?_toList, Array.getElem?_toList, Array.getElem?_setIfInBounds, arr_get, arr_get, arr_size]
  unfold putW
  by_cases hj : i = j
  · subst hj
    rw [if_pos rfl, if_pos hi, if_pos hi, if_pos (by simp), Nat.sub_self]
    rfl
  · rw [if_neg hj, if_neg (show ¬ (i ≤ j ∧ j < i + [v].length) by simp; omega)]
/-! What the cells are behind a store. -/
theorem rd_step (s : RdS) (kv cp : Value) (n : Int) : arr 549 (putW (rdF s kv cp) 4 [.int .i64 n]) = arr 549 (rdF { s with step := n } kv cp) := arr_congr fun i _ => by
  unfold putW
  rw [List.length_singleton]
  by_cases h : 4 ≤ i ∧ i < 4 + 1
  · obtain rfl : i = 4 := by omega
    rfl
  · rw [if_neg h]
    unfold rdF
    by_cases h5 : i < 5
    · have : i = 0 ∨ i = 1 ∨ i = 2 ∨ i = 3 := by omega
      rcases this with rfl | rfl | rfl | rfl <;> rfl
    · rw [if_neg h5, if_neg h5]
theorem rd_round (s : RdS) (kv cp : Value) (n : Int) : arr 549 (putW (rdF s kv cp) 3 [.int .i64 n]) = arr 549 (rdF { s with round := n } kv cp) := arr_congr fun i _ => by
  unfold putW
  rw [List.length_singleton]
  by_cases h : 3 ≤ i ∧ i < 3 + 1
  · obtain rfl : i = 3 := by omega
    rfl
  · rw [if_neg h]
    unfold rdF
    by_cases h5 : i < 5
    · have : i = 0 ∨ i = 1 ∨ i = 2 ∨ i = 4 := by omega
      rcases this with rfl | rfl | rfl | rfl <;> rfl
    · rw [if_neg h5, if_neg h5]
theorem rd_known (s : RdS) (kv kv' cp : Value) : arr 549 (putW (rdF s kv cp) 103 [kv']) = arr 549 (rdF s kv' cp) := arr_congr fun i _ => by
  unfold putW
  rw [List.length_singleton]
  by_cases h : 103 ≤ i ∧ i < 103 + 1
  · obtain rfl : i = 103 := by omega
    rfl
  · rw [if_neg h]
    unfold rdF
    repeat' split
    all_goals first | rfl | omega
theorem idc_get {l : List UInt8} (h : IdOk l) {i : Nat} (hi : i < 32) : (l.map Extern.Stop.cell).getD i undef = Extern.Stop.cell (l.getD i 0) := by
  unfold IdOk at h
  rw [List.getD_eq_getElem?_getD, List.getElem?_map, List.getElem?_eq_getElem (by omega), List.getD_eq_getElem?_getD, List.getElem?_eq_getElem (by omega)]
  rfl
theorem rd_fresh (s : RdS) (kv cp : Value) {l : List UInt8} (hl : IdOk l) : arr 549 (putW (rdF s kv cp) 5 (l.map Extern.Stop.cell)) = arr 549 (rdF { s with fresh := l } kv cp) := arr_congr fun i _ => by
  have h32 : (l.map Extern.Stop.cell).length = 32 := by rw [List.length_map]; exact hl
  unfold putW
  rw [h32]
  by_cases h : 5 ≤ i ∧ i < 5 + 32
  · rw [if_pos h, idc_get hl (by omega)]
    have := rdF_fresh { s with fresh := l } kv cp (i := i - 5) (by omega)
    rw [show 5 + (i - 5) = i by omega] at this
    exact this.symm
  · rw [if_neg h]
    unfold rdF
    by_cases h5 : i < 5
    · rw [if_pos h5, if_pos h5]
    · rw [if_neg h5, if_neg h5]
      repeat' split
      all_goals first | rfl | omega
/-- A mark's cells. -/
def markC (r : Int) (l : List UInt8) : List Value := .int .i64 r :: l.map Extern.Stop.cell
theorem markC_get {r : Int} {l : List UInt8} (h : IdOk l) {i : Nat} (hi : i < 33) : (markC r l).getD i undef = markF r l i := by
  unfold markC markF
  cases i with
  | zero => rfl
  | succ i => rw [if_neg (by omega), List.getD_cons_succ, idc_get h (by omega), Nat.add_sub_cancel]
theorem markC_length {r : Int} {l : List UInt8} (h : IdOk l) : (markC r l).length = 33 := by
  unfold markC
  rw [List.length_cons, List.length_map, h]
theorem markC_one (r : Int) (l : List UInt8) : ∀ u ∈ markC r l, u.oneCell' = true := fun u hu => by
  rcases List.mem_cons.1 hu with rfl | hu
  · rfl
  · obtain ⟨b, _, rfl⟩ := List.mem_map.1 hu
    rfl
theorem rd_lock (s : RdS) (kv cp : Value) (r : Int) {l : List UInt8} (hl : IdOk l) : arr 549 (putW (rdF s kv cp) 37 (markC r l)) = arr 549 (rdF { s with lockR := r, lock := l } kv cp) := arr_congr fun i _ => by
  unfold putW
  rw [markC_length hl]
  by_cases h : 37 ≤ i ∧ i < 37 + 33
  · rw [if_pos h, markC_get hl (by omega)]
    unfold rdF
    rw [if_neg (by omega), if_neg (by omega), if_pos (by omega)]
  · rw [if_neg h]
    unfold rdF
    repeat' split
    all_goals first | rfl | omega
theorem rd_best (s : RdS) (kv cp : Value) (r : Int) {l : List UInt8} (hl : IdOk l) : arr 549 (putW (rdF s kv cp) 70 (markC r l)) = arr 549 (rdF { s with bestR := r, best := l } kv cp) := arr_congr fun i _ => by
  unfold putW
  rw [markC_length hl]
  by_cases h : 70 ≤ i ∧ i < 70 + 33
  · rw [if_pos h, markC_get hl (by omega)]
    unfold rdF
    rw [if_neg (by omega), if_neg (by omega), if_neg (by omega), if_pos (by omega)]
  · rw [if_neg h]
    unfold rdF
    repeat' split
    all_goals first | rfl | omega
/-- An offer's cells. -/
def offC (o : OfferS) : List Value := .bool o.there :: .int .i64 o.valid :: o.id.map Extern.Stop.cell
theorem offC_get {o : OfferS} (h : IdOk o.id) {i : Nat} (hi : i < 34) : (offC o).getD i undef = offF o i := by
  unfold offC offF
  rcases i with _ | _ | i
  · rfl
  · rfl
  · rw [if_neg (by omega), if_neg (by omega), List.getD_cons_succ, List.getD_cons_succ, idc_get h (by omega)]
    rfl
theorem offC_length {o : OfferS} (h : IdOk o.id) : (offC o).length = 34 := by
  unfold offC
  rw [List.length_cons, List.length_cons, List.length_map, h]
theorem offC_one (o : OfferS) : ∀ u ∈ offC o, u.oneCell' = true := fun u hu => by
  rcases List.mem_cons.1 hu with rfl | hu
  · rfl
  rcases List.mem_cons.1 hu with rfl | hu
  · rfl
  · obtain ⟨b, _, rfl⟩ := List.mem_map.1 hu
    rfl
theorem rd_offer (s : RdS) (kv cp : Value) {k : Nat} (hk : k < 12) {o : OfferS} (ho : IdOk o.id) : arr 549 (putW (rdF s kv cp) (104 + 34 * k) (offC o)) = arr 549 (rdF { s with offers := fun j => if j = k then o else s.offers j } kv cp) := arr_congr fun i hi => by
  unfold putW
  rw [offC_length ho]
  by_cases h : 104 + 34 * k ≤ i ∧ i < 104 + 34 * k + 34
  · rw [if_pos h, offC_get ho (by omega)]
    have := rdF_offer { s with offers := fun j => if j = k then o else s.offers j } kv cp hk (i := i - (104 + 34 * k)) (by omega)
    rw [show 104 + 34 * k + (i - (104 + 34 * k)) = i by omega] at this
    rw [this]
    simp
  · rw [if_neg h]
    by_cases h2 : 104 ≤ i ∧ i < 512
    · obtain ⟨j, m, hj, hm, rfl⟩ : ∃ j m, j < 12 ∧ m < 34 ∧ i = 104 + 34 * j + m := ⟨(i - 104) / 34, (i - 104) % 34, by omega, by omega, by omega⟩
      rw [rdF_offer _ _ _ hj hm, rdF_offer _ _ _ hj hm]
      have : j ≠ k := by omega
      simp [this]
    · unfold rdF
      repeat' split
      all_goals first | rfl | omega
theorem rd_timer (s : RdS) (kv cp : Value) {k t : Nat} (hk : k < 12) (ht : t < 3) : arr 549 (putW (rdF s kv cp) (512 + 3 * k + t) [.bool true]) = arr 549 (rdF { s with timers := fun j u => if j = k ∧ u = t then true else s.timers j u } kv cp) := arr_congr fun i hi => by
  unfold putW
  rw [List.length_singleton]
  by_cases h : 512 + 3 * k + t ≤ i ∧ i < 512 + 3 * k + t + 1
  · obtain rfl : i = 512 + 3 * k + t := by omega
    rw [if_pos h, rdF_timer _ _ _ hk ht, Nat.sub_self]
    simp
  · rw [if_neg h]
    by_cases h2 : 512 ≤ i ∧ i < 548
    · obtain ⟨j, m, hj, hm, rfl⟩ : ∃ j m, j < 12 ∧ m < 3 ∧ i = 512 + 3 * j + m := ⟨(i - 512) / 3, (i - 512) % 3, by omega, by omega, by omega⟩
      rw [rdF_timer _ _ _ hj hm, rdF_timer _ _ _ hj hm]
      have : ¬ (j = k ∧ m = t) := by omega
      simp [this]
    · unfold rdF
      repeat' split
      all_goals first | rfl | omega
set_option maxRecDepth 100000 in
set_option maxHeartbeats 4000000 in
theorem inside_any (r : Int) (w : World) : Calls Try.prog 63 #[.int .i64 r] w fun e w' => e = .returned (.bool (decide (0 ≤ r ∧ r < 12))) ∧ w' = w := by
  rcases Int.lt_or_le r 0 with h | h
  · rw [decide_eq_false (by omega)]
    go_enter Try.func63, Try.ntmps63
    go_wp2_with fail
    go_ret
    exact ⟨rfl, rfl⟩
  · have e : decide (0 ≤ r ∧ r < 12) = decide (r < 12) := by simp [h]
    rw [e]
    go_enter Try.func63, Try.ntmps63
    go_wp2_with fail
    go_ret
    exact ⟨rfl, rfl⟩
set_option maxRecDepth 100000 in
set_option maxHeartbeats 4000000 in
theorem behind_any (k : Int) (w : World) : Calls Try.prog 74 #[.int .i64 k] w fun e w' => e = .returned (.int .i64 (if k = 0 then 1 else 2)) ∧ w' = w := by
  by_cases h : k = 0
  · rw [if_pos h]
    subst h
    go_enter Try.func74, Try.ntmps74
    go_wp2_with fail
    go_ret
    exact ⟨rfl, rfl⟩
  · rw [if_neg h]
    have hb : (k == 0) = false := by rw [beq_eq_false_iff_ne]; exact h
    go_enter Try.func74, Try.ntmps74
    go_wp2_with fail
    go_ret
    exact ⟨rfl, rfl⟩
end Go.Proofs.Ytbgojlcciealiaa
