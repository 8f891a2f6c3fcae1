/-
  Rows of IDs of the call's own; a tree's range as it lies in memory. No condition.
  tree.put: for every range and leaf: a leaf more carries over each lowest tree. No condition.
  Slices of IDs, read; cut; cloned; a tree's range made of leaves. No condition.
  tree.Of, Append, Size, Tops: for every list of leaves of not more than 2^40, in whatever memory. No condition.
  tree's Root: for every range, in whatever memory: the sum of its leaves, by halves. slices.Backward over IDs. No condition.
-/
import Derived.Test.YtphknicdllcbmaaDoorLeafT
import Derived.Test.YtphknicdllcbmaaDoorTreeMath
import Derived.Test.YtphknicdllcbmaaDoorTurn
import Derived.Deep.MidRow
import Derived.Great.BuildSlice
import Derived.Test.YtphknicdllcbmaaDoorPackOps
import Derived.Deep.RegionHeld3
import Derived.Lib.LazyBuf
namespace Go.Proofs.YtphknicdllcbmaaDoor
open Go Go.RowKit Go.Shelf TreeM

/-- An ID's cells. -/
def idc (f : D) : List Value := (List.range 32).map fun i => bv (f i)
theorem idc_length (f : D) : (idc f).length = 32 := by simp [idc]
theorem idc_get (f : D) (i : Nat) (h : i < 32) : (idc f)[i]? = some (bv (f i)) := by simp [idc, h]
theorem idc_arr (f : D) : (arr 32 fun i => bv (f i)) = (idc f).toArray := by
  rw [arr_list]; rfl
theorem idc_one (f : D) : ∀ v ∈ idc f, v.oneCell' = true := fun v hv => by
  simp only [idc, List.mem_map] at hv
  obtain ⟨i, _, rfl⟩ := hv
  rfl
theorem id_info : (Tryd.prog.info? 30).map (·.size) = some 32 := by kernel_rfl
theorem idc_info (f : D) : (Tryd.prog.info? 30).map (·.size) = some (idc f).length := by rw [idc_length]; exact id_info
/-- The cells of a row of IDs. -/
def idCells (ts : List D) : List Value := ts.flatMap idc
theorem idCells_length (ts : List D) : (idCells ts).length = ts.length * 32 := by
  induction ts with
  | nil => rfl
  | cons t ts ih => rw [idCells, List.flatMap_cons, List.length_append, idc_length, ← idCells, ih, List.length_cons]; omega
theorem idCells_append (a b : List D) : idCells (a ++ b) = idCells a ++ idCells b := by simp [idCells]
theorem idCells_one (f : D) : idCells [f] = idc f := by simp [idCells]
theorem idCells_take (ts : List D) (k : Nat) (h : k ≤ ts.length) : (idCells ts).take (k * 32) = idCells (ts.take k) := by
  conv => lhs; rw [← List.take_append_drop k ts]
  rw [idCells_append, List.take_append_of_le_length (by rw [idCells_length, List.length_take]; omega), List.take_of_length_le (by rw [idCells_length, List.length_take]; omega)]
theorem idCells_get (ts : List D) (k i : Nat) (hk : k < ts.length) (hi : i < 32) : (idCells ts)[32 * k + i]? = some (bv (ts[k] i)) := by
  conv => lhs; rw [← List.take_append_drop k ts]
  rw [idCells_append, List.getElem?_append_right (by rw [idCells_length, List.length_take]; omega), List.drop_eq_getElem_cons hk]
  rw [idCells_length, List.length_take, show 32 * k + i - min k ts.length * 32 = i from by omega]
  show (idCells (ts[k] :: ts.drop (k + 1)))[i]? = _
  rw [idCells, List.flatMap_cons, List.getElem?_append_left (by rw [idc_length]; exact hi), idc_get _ _ hi]
theorem own_id {w : World} {B G n cap : Nat} {ts : List D} (h : w.ownsRow B 30 32 (.slice (some ⟨G, 0, none⟩) n cap) n (idCells ts)) (hn : ts.length = n) (k : Nat) (hk : k < n) : w.rangeAt G (32 * k) (idc (ts[k]'(by omega))) := fun j v hv => by
  have hj : j < 32 := by
    have := (List.getElem?_eq_some_iff.1 hv).1
    rwa [idc_length] at this
  rw [idc_get _ _ hj] at hv
  rw [h.cellAt (32 * k + j) (by omega), idCells_get ts k j (by omega) hj]
  exact hv
theorem own_last {w : World} {B G m cap : Nat} {ts : List D} (h : w.ownsRow B 30 32 (.slice (some ⟨G, 0, none⟩) ts.length cap) ts.length (idCells ts)) (hm : ts.length = m + 1) (x : D) : w.rangeAt G (m * 32) (idc (ts.getLastD x)) := by
  have h1 := own_id h rfl m (by omega)
  have e : ts.getLastD x = ts[m]'(by omega) := by
    rw [List.getLastD_eq_getLast?, List.getLast?_eq_getElem?, show ts.length - 1 = m from by omega, List.getElem?_eq_getElem (by omega)]
    rfl
  rw [e, Nat.mul_comm]
  exact h1
theorem own_cutN {w : World} {B n k s : Nat} {e : TypeId} {A : Option Addr} {c : Nat} {xs : List Value} (h : w.ownsRow B e s (.slice A n c) n xs) (hk : k ≤ n) : w.ownsRow B e s (.slice A k c) k (xs.take (k * s)) := by
  have hks : k * s ≤ n * s := Nat.mul_le_mul_right _ hk
  refine ⟨by rw [List.length_take, h.1]; omega, ?_⟩
  rcases h.2 with ⟨hv, h0⟩ | ⟨g, cap, cur, hv, h1, h2, h3, h4, h5, h6⟩
  · injection hv with e1 e2 e3
    subst e1; subst e3
    exact .inl ⟨by rw [show k = 0 from by omega], by omega⟩
  · injection hv with e1 e2 e3
    subst e1; subst e3
    refine .inr ⟨g, c, cur, rfl, h1, h2, by omega, h4, h5, ?_⟩
    rw [← h6, List.take_take]
    congr 1
    omega
theorem own_addrN {W : World} {B n c s : Nat} {e : TypeId} {A : Option Addr} {xs : List Value} (h : W.ownsRow B e s (.slice A n c) n xs) (hn : 0 < n) : ∃ G, A = some ⟨G, 0, none⟩ := by
  rcases ownsRow_forms' h with ⟨_, h0⟩ | ⟨g, cap, hv⟩
  · omega
  · injection hv with e1 _ _
    exact ⟨g, e1⟩
theorem info_id : (Tryd.prog.info? 30).map (fun i => (i.zero, i.size, i.bytes)) = some (some (.agg (Array.replicate 32 (.int .u8 0))), 32, 32) := by kernel_rfl
/-- An append of one ID. -/
theorem app_id {B : Nat} {w : World} (hB : B ≤ w.heap.size) {v : Value} {n : Nat} {xs : List Value} (hown : w.ownsRow B 30 32 v n xs) (f : D) {g0 : Nat} (hg0 : Blk w g0 30 (arr 32 fun i => bv (f i))) (hn : n ≤ 100000000) :
    ∃ g cap w', (Builtin.append_ #[22, 22] 22 #[v, .slice (some ⟨g0, 0, none⟩) 1 1]).run Tryd.prog w = .ok (.slice (some ⟨g, 0, none⟩) (n + 1) cap) w' ∧
      w'.ownsRow B 30 32 (.slice (some ⟨g, 0, none⟩) (n + 1) cap) (n + 1) (xs ++ idc f) ∧ w.grownBy w' v.ownBlock ∧ (v.ownBlock = some g ∨ w.heap.size ≤ g) := by
  obtain ⟨i0, hi, hz0, hz1, hz2⟩ := info_parts info_id
  obtain ⟨v', w', hrun, hown', hgr, _, hv'⟩ := run_append_own_at (P := Tryd.prog) w B 22 22 30 i0 _ 32 32 Tryd.underlying22 hi hz0 hz1 hz2 (by simp [Value.cells]) (by omega) v n xs hown ⟨g0, 0, none⟩ 1 1 (idc f) (by simp [idc])
    (fun j u hu => by
      have hj : j < 32 := by
        have := (List.getElem?_eq_some_iff.1 hu).1
        rwa [idc_length] at this
      rw [add_zero_block, hg0.cell, arr_get, if_pos hj, ← hu, idc_get _ _ hj]) (idc_one f) (by unfold maxLen; omega) (by omega) hB
  rcases ownsRow_forms' hown' with ⟨_, h0⟩ | ⟨g, cap, rfl⟩
  · omega
  · refine ⟨g, cap, w', hrun, hown', hgr, ?_⟩
    rcases hv' with h | h
    · exact .inl h.symm
    · simp only [Value.ownBlock, Option.some.injEq] at h
      exact .inr (by omega)
section
variable {P : Program} {ops : Array Oper} {w : World}
/-- A load from within a row, among operations that only read. -/
theorem wpStill_load_mid {Q : Act → Prop} {a : Act} {o : Oper} {rest : List Oper} (hgd : o.guard = none) (ty : TypeId) (x : Operand) (ho : o.op = .load ty x) (b off : Nat) (hx : a.eval x = .pointer (some ⟨b, off, none⟩)) (cs : List Value) (d : TypeDesc) (hc : w.rangeAt b off cs)
    (hu : P.underlying ty = some d) (hd : d.isRow = true) (hi : (P.info? ty).map (·.size) = some cs.length) (h : wpStill P ops w Q rest (a.put o.dst (.agg cs.toArray))) : wpStill P ops w Q (o :: rest) a := by
  refine wpStill_step fun K hK => ?_
  rw [if_pos (by simp [Region.wanted, hgd])]
  unfold Oper.still
  have e : (execOp a.eval o).run P w = .ok (.value (.agg cs.toArray)) w := by
    simp only [execOp, ho, hx, Sem.run_bind, run_loadAt_mid w b off ty cs d hc hu hd hi, Result.andThen_ok, Sem.run_pure]
  rw [e, Oper.stillUpon_value]
  exact hK _ h
end
theorem run_slice_toN {P : Program} (t e : TypeId) (ht : P.underlying t = some (.slice e)) (sz : Nat) (hs : (P.info? e).map (·.size) = some sz) (A : Option Addr) (len cap h : Nat) (hh : h ≤ cap) (w : World) :
    (Instr.sliceAt t (.slice A len cap) none (some (.int .i64 (h : Int))) none).run P w = .ok (.slice A h cap) w := by
  have h1 : (h : Int) ≤ cap := by omega
  have h3 : A.map (·.add 0) = A := by cases A <;> simp [Addr.add]
  have hsz : (sizeOf e).run P w = .ok sz w := by
    cases hq : P.info? e with
    | none => simp [hq] at hs
    | some i => simp [sizeOf, typeInfo, hq]; simpa [hq] using hs
  simp [Instr.sliceAt, Instr.slice, run_underlying ht, Instr.sliceBounds, Instr.sliceBound, asIntOf, Sem.run_bind, hsz, h3]
  intro hx
  omega
/-- A range in block g: so many leaves, these whole trees; Z: the blocks that are its own. -/
def RangeAt (w : World) (Z : Nat → Prop) (g n : Nat) (ts : List D) : Prop :=
  ∃ v, Blk w g 61 #[.int .i64 (n : Int), v] ∧ w.ownsRow 0 30 32 v ts.length (idCells ts) ∧ Z g ∧ (∀ i, v.ownBlock = some i → Z i) ∧ (∀ i, Z i → i < w.heap.size) ∧ ts.length = pop n ∧ n ≤ 1099511627776
theorem RangeAt.turn {w w' : World} {Z S : Nat → Prop} {g n : Nat} {ts : List D} (h : RangeAt w Z g n ts) (ht : Turn S w w') (hs : ∀ i, Z i → ¬ S i) : RangeAt w' Z g n ts := by
  obtain ⟨v, h1, h2, h3, h4, h5, h6⟩ := h
  exact ⟨v, ht.blk h1 (hs g h3), ht.own h2 (fun i hi => hs i (h4 i hi)), h3, h4, fun i hi => Nat.lt_of_lt_of_le (h5 i hi) ht.size, h6⟩
theorem RangeAt.below {w w' : World} {Z : Nat → Prop} {g n : Nat} {ts : List D} (h : RangeAt w Z g n ts) (hb : Below w.heap.size w w') : RangeAt w' Z g n ts := by
  have h5 : ∀ i, Z i → i < w.heap.size := by obtain ⟨_, _, _, _, _, h5, _⟩ := h; exact h5
  exact h.turn (Turn.of_below hb) (fun i hi => by have := h5 i hi; omega)
/-- Its row lies elsewhere. -/
theorem range_ne {w : World} {g n : Nat} {v : Value} {cs : Array Value} {xs : List Value} (hb : Blk w g 61 cs) (ho : w.ownsRow 0 30 32 v n xs) : ∀ i, v.ownBlock = some i → i ≠ g := by
  rintro i hi rfl
  rcases ho.2 with ⟨rfl, _⟩ | ⟨i', cap, cur, rfl, _, h3, _⟩
  · cases hi
  · simp only [Value.ownBlock, Option.some.injEq] at hi
    subst hi
    unfold Blk at hb
    rw [hb] at h3
    have := (Option.some.inj h3)
    injection this with _ e2
    exact absurd e2 (by decide)
/-- What a call leaves of a range. -/
def RLeft (Z : Nat → Prop) (g n : Nat) (ts : List D) (w w' : World) : Prop := ∃ Z', RangeAt w' Z' g n ts ∧ Turn Z w w' ∧ ∀ i, Z' i → Z i ∨ w.heap.size ≤ i
end Go.Proofs.YtphknicdllcbmaaDoor
namespace Go.Proofs.YtphknicdllcbmaaDoor
open Go Go.RowKit Go.Shelf TreeM

/-- What holds at the head of a round of put. -/
def PutRel (w wr : World) (Z : Nat → Prop) (g n c : Nat) (ob : Option Nat) (R : List D) : Prop :=
  ∃ (v : Value) (ts : List D) (f : D), Blk wr g 61 #[.int .i64 (n : Int), v] ∧ wr.ownsRow 0 30 32 v ts.length (idCells ts) ∧ v.ownBlock = ob ∧ Blk wr (w.heap.size + 1) 30 (arr 32 fun i => bv (f i)) ∧ ts.length = pop c ∧ carry c ts f = R ∧ Turn Z w wr ∧ w.heap.size + 1 < wr.heap.size
theorem b2 (w : World) (t t' : TypeId) (a b : Array Value) : Below w.heap.size w ((w.alloc (.cells a t)).alloc (.cells b t')) := ((Below.refl _ _).alloc (Nat.le_refl _) _).alloc (by simp) _
theorem put_start {w W2 : World} {Z : Nat → Prop} {g n : Nat} {ts : List D} {f : D} {v : Value} {a b : Array Value} {t : TypeId} (h : RangeAt w Z g n ts) (hv : w.cell? ⟨g, 1, none⟩ = some v)
    (hS : Blk W2 (w.heap.size + 1) 30 (arr 32 fun i => bv (f i))) (hb : Below (w.heap.size + 1) ((w.alloc (.cells a t)).alloc (.cells b t)) W2) : PutRel w W2 Z g n n v.ownBlock (carry n ts f) ∧ W2.cell? ⟨g, 0, none⟩ = some (.int .i64 (n : Int)) := by
  have hbW : Below w.heap.size w W2 := (b2 w t t a b).trans (hb.mono (Nat.le_succ _))
  obtain ⟨v', q1, q2, q3, q4, q5, q6, q7⟩ := h
  have e : some v' = some v := (q1.cell 1).symm.trans hv
  injection e with e
  subst e
  have k1 := q1.below hbW q1.lt
  refine ⟨⟨v', ts, f, k1, Turn.own (Turn.of_below hbW) q2 (fun i hi => by have := q5 i (q4 i hi); omega), rfl, hS, q6, rfl, Turn.of_new hbW Z, hS.lt⟩, k1.cell 0⟩
/-- What is known of a round's world: the range, its row, the top. -/
def PutW (w W : World) (Z : Nat → Prop) (g n G m c1 : Nat) (ts : List D) (af : Array Value) : Prop :=
  Blk W (w.heap.size + 1) 30 af ∧ af.size = 32 ∧ Blk W g 61 #[.int .i64 (n : Int), .slice (some ⟨G, 0, none⟩) (m + 1) c1] ∧ W.ownsRow 0 30 32 (.slice (some ⟨G, 0, none⟩) (m + 1) c1) (m + 1) (idCells ts) ∧ Turn Z w W ∧ w.heap.size + 1 < W.heap.size
theorem put_below {w W W' : World} {Z : Nat → Prop} {g n G m c1 : Nat} {ts : List D} {af : Array Value} (h : PutW w W Z g n G m c1 ts af) (hb : Below W.heap.size W W') : PutW w W' Z g n G m c1 ts af := by
  obtain ⟨h1, h2, h3, h4, h5, h6⟩ := h
  exact ⟨h1.below hb h1.lt, h2, h3.below hb h3.lt, Turn.own (Turn.of_below hb) h4 (fun i hi => by have := (h4.lt i hi).2; omega), h5.trans (Turn.of_new hb Z) (fun i _ hi => hi), Nat.lt_of_lt_of_le h6 hb.size⟩
theorem put_top {w W W' : World} {Z : Nat → Prop} {g n G m c1 : Nat} {ts : List D} {af af' : Array Value} (h : PutW w W Z g n G m c1 ts af) (hg : g < w.heap.size) (hG : G < w.heap.size) (hS : Blk W' (w.heap.size + 1) 30 af') (hs : af'.size = 32) (hz : W'.heap.size = W.heap.size) (hb : Below (w.heap.size + 1) W W') (hk : ∀ b, b ≠ w.heap.size + 1 → W'.heap[b]? = W.heap[b]?) : PutW w W' Z g n G m c1 ts af' := by
  obtain ⟨h1, h2, h3, h4, h5, h6⟩ := h
  have ht : Turn (fun i => i = w.heap.size + 1) W W' := ⟨hb.os, hb.tape, hb.output, by omega, fun i _ hi => hk i hi⟩
  exact ⟨hS, hs, ht.blk h3 (by omega), ht.own h4 (fun i hi => by simp only [Value.ownBlock, Option.some.injEq] at hi; omega), h5.trans ht (fun i hi he => by omega), by omega⟩
theorem put_round {w W : World} {Z : Nat → Prop} {g n k G m c1 : Nat} {ts : List D} {f : D} {R : List D} (h : PutW w W Z g n G m c1 ts (arr 32 fun i => bv (node (ts.getLastD f) f i))) (hg : g < w.heap.size) (hZ : Z g) (hm : ts.length = m + 1) (hp : ts.length = pop k) (hodd : k % 2 = 1) (hc : carry k ts f = R) :
    PutRel w (W.setCell ⟨g, 1, none⟩ (.slice (some ⟨G, 0, none⟩) m c1)) Z g n (k / 2) (some G) R := by
  obtain ⟨h1, h2, h3, h4, h5, h6⟩ := h
  have hne := range_ne h3 h4 G rfl
  have ht : Turn (fun i => i = g) W (W.setCell ⟨g, 1, none⟩ (.slice (some ⟨G, 0, none⟩) m c1)) := (Turn.refl (fun i => i = g) W).setCell (p := ⟨g, 1, none⟩) (fun _ => rfl) _
  have ho := own_cutN h4 (show m ≤ m + 1 by omega)
  rw [idCells_take ts m (by omega)] at ho
  have e : ts.take m = ts.dropLast := by rw [List.dropLast_eq_take, hm]; rfl
  rw [e] at ho
  have hl : ts.dropLast.length = m := by rw [List.length_dropLast, hm]; rfl
  refine ⟨.slice (some ⟨G, 0, none⟩) m c1, ts.dropLast, node (ts.getLastD f) f, h3.store 1 _, ?_, rfl, ht.blk h1 (by omega), ?_, ?_, h5.setCell (fun _ => hZ) _, by simpa [World.setCell] using h6⟩
  · rw [hl]
    exact ht.own ho (fun i hi => by simp only [Value.ownBlock, Option.some.injEq] at hi; omega)
  · rw [hl]
    have := pop_step k
    omega
  · rw [← hc, carry_odd hodd]
theorem wp_build_idc {o : Oper} {a : Act} {w : World} {K : Act → World → Prop} {Q : Exit → Act → World → Prop} (x : Operand) (ho : o.op = .buildSlice 22 1 #[(0, x)]) (f : D) (hx : a.eval x = .agg (idc f).toArray)
    (h : K (a.put o.dst (.slice (some ⟨w.heap.size, 0, none⟩) 1 1)) (w.alloc (.cells (arr 32 fun i => bv (f i)) 30))) : o.wp Tryd.prog a w K Q := by
  obtain ⟨i0, hi, hz0, hz1, hz2⟩ := info_parts info_id
  refine wp_buildSlice 22 30 1 _ ho (arr 32 fun i => bv (f i)) i0 _ Tryd.underlying22 hi hz0 (by rw [hz1]; decide) (by rw [hz1]; decide) ?_ h
  rw [hz1]
  simp only [List.map_toArray, List.map_cons, List.map_nil, hx]
  kernel_rfl
theorem put_end {w wr W5 W6 : World} {Z : Nat → Prop} {g n k G m1 cap : Nat} {v1 : Value} {ts ts1 : List D} {f f1 : D} (hB : Blk wr g 61 #[.int .i64 (n : Int), v1]) (hlen : m1 = ts1.length) (hpop : ts.length = pop n) (hn : n < 1099511627776)
    (hc : carry k ts1 f1 = carry n ts f) (hodd : ¬ k % 2 = 1) (ht : Turn Z w wr) (hZ : ∀ i, Z i → i < w.heap.size) (hZg : Z g) (hv : ∀ i, v1.ownBlock = some i → Z i) (hne : ∀ i, v1.ownBlock = some i → i ≠ g) (h5 : Below wr.heap.size wr W5)
    (hO : W6.ownsRow 0 30 32 (.slice (some ⟨G, 0, none⟩) (m1 + 1) cap) (m1 + 1) (idCells ts1 ++ idc f1)) (hgr : W5.grownBy W6 v1.ownBlock) (hG : v1.ownBlock = some G ∨ W5.heap.size ≤ G) :
    RLeft Z g (n + 1) (carry n ts f) w ((W6.setCell ⟨g, 1, none⟩ (.slice (some ⟨G, 0, none⟩) (m1 + 1) cap)).setCell ⟨g, 0, none⟩ (.int .i64 ((n : Int) + 1))) := by
  have t5 : Turn Z w W5 := ht.trans (Turn.of_new h5 Z) (fun i _ hi => hi)
  have t6 : Turn Z w W6 := t5.grown hgr (fun i hi _ => hv i hi)
  have t7 := t6.setCell (p := ⟨g, 1, none⟩) (fun _ => hZg) (.slice (some ⟨G, 0, none⟩) (m1 + 1) cap)
  have t8 := t7.setCell (p := ⟨g, 0, none⟩) (fun _ => hZg) (.int .i64 ((n : Int) + 1))
  have hgw : g < wr.heap.size := hB.lt
  have b6 : Blk W6 g 61 #[.int .i64 (n : Int), v1] := (hgr.block g (Nat.lt_of_lt_of_le hgw h5.size) (fun e => hne g e.symm rfl)).trans (hB.below h5 hgw)
  have hGg : G ≠ g := by
    rcases hG with h | h
    · exact hne G h
    · have := h5.size
      omega
  have hG6 : G < W6.heap.size := (hO.lt G rfl).2
  have b8 := (b6.store 1 (.slice (some ⟨G, 0, none⟩) (m1 + 1) cap)).store 0 (.int .i64 ((n : Int) + 1))
  have tg : Turn (fun i => i = g) W6 ((W6.setCell ⟨g, 1, none⟩ (.slice (some ⟨G, 0, none⟩) (m1 + 1) cap)).setCell ⟨g, 0, none⟩ (.int .i64 ((n : Int) + 1))) :=
    ((Turn.refl (fun i => i = g) W6).setCell (p := ⟨g, 1, none⟩) (fun _ => rfl) _).setCell (p := ⟨g, 0, none⟩) (fun _ => rfl) _
  have o8 := tg.own hO (fun i hi => by simp only [Value.ownBlock, Option.some.injEq] at hi; omega)
  have hcl := carry_length n ts f hpop
  rw [← hc, carry_even hodd, List.length_append, List.length_singleton] at hcl
  refine ⟨fun i => Z i ∨ i = G, ⟨.slice (some ⟨G, 0, none⟩) (m1 + 1) cap, ?_, ?_, .inl hZg, fun i hi => ?_, fun i hi => ?_, ?_, by omega⟩, t8, fun i hi => ?_⟩
  · exact b8
  · rw [← hc, carry_even hodd, List.length_append, List.length_singleton, idCells_append, idCells_one, ← hlen]
    exact o8
  · simp only [Value.ownBlock, Option.some.injEq] at hi
    exact .inr hi.symm
  · have e8 := tg.size
    rcases hi with hi | hi
    · have := hZ i hi
      have := t8.size
      omega
    · omega
  · rw [← hc, carry_even hodd, List.length_append, List.length_singleton]; exact hcl
  · rcases hi with hi | rfl
    · exact .inl hi
    · rcases hG with h | h
      · exact .inl (hv i h)
      · have := h5.size
        have := ht.size
        exact .inr (by omega)
set_option maxRecDepth 100000 in
set_option maxHeartbeats 2000000 in
theorem put_any (w0 : World) (hT : Tables w0) (Z : Nat → Prop) (g n : Nat) (ts : List D) (f : D) (w : World) (h : RangeAt w Z g n ts) (hZ : ∀ i, Z i → w0.heap.size ≤ i) (hb0 : Below w0.heap.size w0 w) (hn : n < 1099511627776) :
    Calls Tryd.prog 32 #[.pointer (some ⟨g, 0, none⟩), .agg (arr 32 fun i => bv (f i))] w fun e w' => e = .returned (.tuple #[]) ∧ RLeft Z g (n + 1) (carry n ts f) w w' := by
  obtain ⟨v, hB, hO, hZg, hvZ, hlt, hpop, hle⟩ := id h
  obtain ⟨af, haf⟩ : ∃ af, (arr 32 fun i => bv (f i)) = af := ⟨_, rfl⟩
  have hsz : af.size = 32 := by rw [← haf, arr_size]
  have hone : af.all (·.oneCell') = true := by rw [← haf]; exact arr_all_bv _ _
  rw [haf]
  have HAF := Lib.hid haf
  have c0 : w.cell? ⟨g, 0, none⟩ = some (.int .i64 (n : Int)) := hB.cell 0
  have hcv : w.cell? ⟨g, 1, none⟩ = some v := hB.cell 1
  have hg : g < w.heap.size := hB.lt
  have H := Lib.hid h
  clear haf h hB hO
  go_enter Tryd.func32, Tryd.ntmps32
  go_wp2_with (first
    | (refine wpList_load_arr rfl 30 _ rfl w.heap.size rfl 30 af _ (Blk.newAt w _ rfl rfl) Tryd.underlying30 rfl (by rw [hsz]; kernel_rfl) ?_)
    | (refine wpList_store_arrW rfl 30 _ _ rfl (w.heap.size + 1) af rfl rfl 30 _ (Blk.newAt _ _ (by simp) rfl) (by rw [hsz]; kernel_rfl) (by rw [hsz]; rfl) hone ?_; intro W2 hS2 hz2 hb2 hk2; obtain ⟨hP2, c2⟩ := put_start (f := f) H.out hcv (by rw [HAF.out]; exact hS2) hb2; have HP2 := Lib.hid hP2; clear hS2 hz2 hb2 hk2 hP2))
  go_loopw [5] (fun c wr => ∃ k : Nat, k ≤ n ∧ c = .int .i64 (k : Int) ∧ PutRel w wr Z g n k v.ownBlock (carry n ts f)) (fun c _ => (intOf c).toNat)
  case atStart => exact ⟨n, by omega, rfl, HP2.out⟩
  case round =>
    clear c2 c0 HP2
    obtain ⟨k, hk, rfl, v1, ts1, f1, hB, hO, hob, hTb, hp1, hc1, ht1, hs1⟩ := hrel
    by_cases hodd : k % 2 = 1
    · have ho1 : ((k : Int) % 2 == 1) = true := by simp; omega
      have hpos := pop_odd_pos hodd
      obtain ⟨A1, c1, rfl, hcap⟩ := own_len hO
      obtain ⟨G, rfl⟩ := own_addrN hO (by omega)
      have cs1 : wr.cell? ⟨g, 1, none⟩ = some (.slice (some ⟨G, 0, none⟩) ts1.length c1) := hB.cell 1
      have fs1 : wr.frozen? ⟨g, 1, none⟩ = false := hB.frozen 1
      obtain ⟨m, hm⟩ : ∃ m, ts1.length = m + 1 := ⟨ts1.length - 1, by omega⟩
      have hmb : (m : Int) ≤ 1000 := by
        have := pop_le 41 k (by have : k ≤ 1099511627776 := by omega
                                omega)
        omega
      have hm0 : 0 ≤ (m : Int) := by omega
      have hr1 := own_last hO hm f1
      obtain ⟨last, hlast⟩ : ∃ last, ts1.getLastD f1 = last := ⟨_, rfl⟩
      rw [hlast] at hr1
      have hr2 : wr.rangeAt (w.heap.size + 1) 0 (idc f1) := range_blk (by rw [← idc_arr]; exact hTb)
      have HND : Hid (∀ W, Below w0.heap.size w0 W → Calls Tryd.prog 30 #[.agg (idc last).toArray, .agg (idc f1).toArray] W fun e w' => e = .returned (.agg (idc (node last f1)).toArray) ∧ Below W.heap.size W w') := Lib.hid fun W hb => by
        have := node_any last f1 W (hT.below hb)
        rw [idc_arr, idc_arr] at this
        refine this.mono ?_
        rintro e w' ⟨h1, h2⟩
        exact ⟨by rw [h1, ← idc_arr]; rfl, h2⟩
      have HOLD : Hid (Below w0.heap.size w0 wr) := Lib.hid (hb0.trans (ht1.below hb0.size fun i hi hz => by have := hZ i hz; omega))
      have HONE := Lib.hid (all_oneCell_toArray (idc_one (node last f1)))
      have HR1 := Lib.hid hr1
      have HR2 := Lib.hid hr2
      have HII := Lib.hid (And.intro (idc_info last) (And.intro (idc_info f1) (And.intro (idc_length last) (And.intro (idc_length f1) (idc_one (node last f1))))))
      have hGZ := hvZ G (by rw [← hob]; rfl)
      have hGlt := hlt G hGZ
      have HPW : Hid (PutW w wr.drew Z g n G m c1 ts1 (arr 32 fun i => bv (f1 i))) := Lib.hid (put_below ⟨hTb, arr_size _ _, by rw [← hm]; exact hB, by rw [← hm]; exact hO, ht1, hs1⟩ ⟨rfl, rfl, rfl, Nat.le_refl _, fun _ _ => rfl⟩)
      have HEND : Hid (∀ W, PutW w W Z g n G m c1 ts1 (idc (node last f1)).toArray → PutRel w (W.setCell ⟨g, 1, none⟩ (.slice (some ⟨G, 0, none⟩) m c1)) Z g n (k / 2) v.ownBlock (carry n ts f)) := Lib.hid fun W hW => by
        rw [← idc_arr, ← hlast] at hW
        have := put_round hW hg hZg hm hp1 hodd hc1
        rw [← hob]
        exact this
      have hsl := run_slice_toN (P := Tryd.prog) 22 30 Tryd.underlying22 32 (by kernel_rfl) (some ⟨G, 0, none⟩) (m + 1) c1 m (by omega)
      clear hB hO hTb ht1 hr1 hr2 hlast hp1 hc1 hob
      obtain ⟨il, hil⟩ : ∃ il, idc last = il := ⟨_, rfl⟩
      obtain ⟨i1, hi1⟩ : ∃ i1, idc f1 = i1 := ⟨_, rfl⟩
      rw [hil, hi1] at HND HII
      rw [hil] at HR1
      rw [hi1] at HR2
      clear hil hi1
      have hml : (m : Int) < (m : Int) + 1 := by omega
      have hml2 : (m : Int) < ((m + 1 : Nat) : Int) := by omega
      go_wp2
      go_still_tail 8, (by kernel_rfl)
      refine wpStill_load_mid rfl 30 _ rfl G (m * 32) rfl il _ (show wr.drew.rangeAt _ _ _ from HR1.out) Tryd.underlying30 rfl HII.out.1 ?_
      refine wpStill_load_mid rfl 30 _ rfl (w.heap.size + 1) 0 rfl i1 _ (show wr.drew.rangeAt _ _ _ from HR2.out) Tryd.underlying30 rfl HII.out.2.1 ?_
      refine wpStill_nil ?_
      change wpList _ _ _ _ _ wr.drew
      go_wp2_with (first
        | (go_at_call 30; refine (HND.out _ HOLD.out.drew).mono ?_; rintro e W3 ⟨rfl, hb3⟩; have Q3 := Lib.hid (put_below HPW.out hb3); clear hb3)
        | (refine wpList_store_arrW rfl 30 _ _ rfl (w.heap.size + 1) (idc (node last f1)).toArray rfl rfl 30 _ Q3.out.1 (by rw [List.size_toArray, idc_length]; kernel_rfl) (by rw [Q3.out.2.1, List.size_toArray, idc_length]) HONE.out ?_; intro W4 hS4 hz4 hb4 hk4; have q4 := put_top Q3.out hg hGlt hS4 (by rw [List.size_toArray, idc_length]) hz4 hb4 hk4; have cs4 := q4.2.2.1.cell 1; have fs4 := q4.2.2.1.frozen 1; have cs5 : W4.cell? ⟨g, 1, none⟩ = some (.slice (some ⟨G, 0, none⟩) (m + 1) c1) := cs4; have Q4 := Lib.hid q4; clear cs4 hS4 hz4 hb4 hk4 q4))
      go_roundw
      case rel => exact ⟨k / 2, by omega, by simp, HEND.out _ Q4.out⟩
      case measure => simp [intOf]; omega
    · have ho1 : ((k : Int) % 2 == 1) = false := by simp; omega
      obtain ⟨A1, c1, rfl, hcap⟩ := own_len hO
      have cs1 : wr.cell? ⟨g, 1, none⟩ = some (.slice A1 ts1.length c1) := hB.cell 1
      obtain ⟨m, hm⟩ : ∃ m, ts1.length = m := ⟨_, rfl⟩
      have hne := range_ne hB hO
      have hr2 : wr.rangeAt (w.heap.size + 1) 0 (idc f1) := range_blk (by rw [← idc_arr]; exact hTb)
      have h5 : Below wr.heap.size wr (wr.drew.alloc (.cells (arr 32 fun i => bv (f1 i)) 30)) := ((Below.refl _ wr).drew).alloc (Nat.le_refl _) _
      have hb5 := hB.below h5 hB.lt
      have hmb : ts1.length ≤ 100000000 := by
        have := pop_le 41 k (by have : k ≤ 1099511627776 := by omega
                                omega)
        omega
      obtain ⟨G, cap, W6, hrun, hO6, hgr, hG⟩ := app_id (B := 0) (Nat.zero_le _) (Turn.own (Turn.of_below h5) hO (fun i hi => by have := (hO.lt i hi).2; omega)) f1 (Blk.newAt wr.drew _ rfl rfl) hmb
      have b6 : Blk W6 g 61 #[.int .i64 (n : Int), .slice A1 ts1.length c1] := (hgr.block g hb5.lt (fun e => hne g e.symm rfl)).trans hb5
      have c60 : W6.cell? ⟨g, 0, none⟩ = some (.int .i64 (n : Int)) := b6.cell 0
      have c61 : W6.cell? ⟨g, 1, none⟩ = some (.slice A1 ts1.length c1) := b6.cell 1
      have f60 : W6.frozen? ⟨g, 0, none⟩ = false := b6.frozen 0
      have f61 : W6.frozen? ⟨g, 1, none⟩ = false := b6.frozen 1
      have HEND := Lib.hid (put_end hB hm.symm hpop hn hc1 hodd ht1 hlt hZg (fun i hi => hvZ i (by rw [← hob]; exact hi)) hne h5 (by rw [← hm]; exact hO6) hgr hG)
      have R1 := Lib.hid hrun
      have hsb : ∀ W, Below wr.heap.size wr W → W.rangeAt (w.heap.size + 1) 0 (idc f1) := fun W hb => range_blk (by rw [← idc_arr]; exact hTb.below hb hTb.lt)
      have HS0 : Hid (wr.drew.rangeAt (w.heap.size + 1) 0 (idc f1)) := Lib.hid (hsb _ (Below.refl _ wr).drew)
      have HS1 : Hid ((wr.drew.alloc (.cells (arr 32 fun i => bv (f1 i)) 30)).rangeAt (w.heap.size + 1) 0 (idc f1)) := Lib.hid (hsb _ h5)
      have hTb6 : Blk W6 (w.heap.size + 1) 30 (arr 32 fun i => bv (f1 i)) := by
        have hq := hTb.below h5 hTb.lt
        exact (hgr.block _ hq.lt (fun e => by have := hlt _ (hvZ _ (by rw [← hob]; exact e.symm)); omega)).trans hq
      have HS6 : Hid (W6.rangeAt (w.heap.size + 1) 0 (idc f1)) := Lib.hid (range_blk (by rw [← idc_arr]; exact hTb6))
      have HS7 : Hid ((W6.setCell ⟨g, 1, none⟩ (.slice (some ⟨G, 0, none⟩) (m + 1) cap)).rangeAt (w.heap.size + 1) 0 (idc f1)) := Lib.hid (range_blk (by rw [← idc_arr]; exact (((Turn.refl (fun i => i = g) W6).setCell (p := ⟨g, 1, none⟩) (fun _ => rfl) _).blk hTb6 (by omega))))
      have c51 : (wr.drew.alloc (.cells (arr 32 fun i => bv (f1 i)) 30)).cell? ⟨g, 1, none⟩ = some (.slice A1 ts1.length c1) := hb5.cell 1
      have c52 : (wr.alloc (.cells (arr 32 fun i => bv (f1 i)) 30)).cell? ⟨g, 1, none⟩ = some (.slice A1 ts1.length c1) := (hB.below ((Below.refl _ wr).alloc (Nat.le_refl _) _) hB.lt).cell 1
      have cd1 : wr.drew.cell? ⟨g, 1, none⟩ = some (.slice A1 ts1.length c1) := cs1
      have HI1 := Lib.hid (idc_info f1)
      clear hrun hO6 hgr hG hb5 b6 hB hO hTb hTb6 hsb hr2 hc1 hob hp1 ht1
      rw [hm] at cs1 c61 R1 c51 c52 cd1
      go_wp2
      refine wp_region_held_drew (S := fun W => W.rangeAt (w.heap.size + 1) 0 (idc f1)) (by kernel_rfl) ?_ (fun hHeld => ?_)
      · exact HS0.out
      refine wpAnyH_take (i := 0) (oi := ⟨some 41, _, _, _, _, _⟩) (v := ?_) rfl (by kernel_rfl) (by kernel_rfl) (by kernel_rfl) (fun _ _ _ h => h) (Or.inl ⟨by rfl, ?_⟩) (by assumption) ?_
      rotate_left
      · intro w hSw; (try dsimp only at hSw); go_simp; try (with_reducible rfl)
      rotate_left 0
      try simp only [Act.put, List.setIfInBounds_toArray, List.set_cons_zero, List.set_cons_succ]
      refine wpAnyH_take (i := 1) (oi := ⟨some 42, _, _, _, _, _⟩) (v := ?_) rfl (by kernel_rfl) (by kernel_rfl) (by kernel_rfl) (fun _ _ _ h => h) (Or.inl ⟨by rfl, ?_⟩) (by assumption) ?_
      rotate_left
      · intro w hSw; (try dsimp only at hSw); go_simp; try (with_reducible rfl)
      rotate_left 0
      try simp only [Act.put, List.setIfInBounds_toArray, List.set_cons_zero, List.set_cons_succ]
      refine wpAnyH_take (i := 2) (oi := ⟨some 43, _, _, _, _, _⟩) (v := ?_) rfl (by kernel_rfl) (by kernel_rfl) (by kernel_rfl) (fun _ _ _ h => h) (Or.inl ⟨by rfl, ?_⟩) (by assumption) ?_
      rotate_left
      · intro w hSw; (try dsimp only at hSw); go_simp; try (with_reducible rfl)
      rotate_left 0
      try simp only [Act.put, List.setIfInBounds_toArray, List.set_cons_zero, List.set_cons_succ]
      refine wpAnyH_take (i := 3) (oi := ⟨some 44, _, _, _, _, _⟩) (v := ?_) rfl (by kernel_rfl) (by kernel_rfl) (by kernel_rfl) (fun _ _ _ h => h) (Or.inl ⟨by rfl, ?_⟩) (by assumption) ?_
      rotate_left
      · intro w hSw; (try dsimp only at hSw); go_simp; try (with_reducible rfl)
      rotate_left 0
      try simp only [Act.put, List.setIfInBounds_toArray, List.set_cons_zero, List.set_cons_succ]
      refine wpAnyH_take (i := 5) (oi := ⟨some 46, _, _, _, _, _⟩) (v := _) rfl (by kernel_rfl) (by kernel_rfl) (by kernel_rfl) (fun _ _ _ h => h) (yieldsIf_load_mid (by rfl) _ _ rfl _ _ rfl (idc f1) _ (fun _ hS => hS) Tryd.underlying30 rfl HI1.out) (by assumption) ?_
      try simp only [Act.put, List.setIfInBounds_toArray, List.set_cons_zero, List.set_cons_succ]
      refine wpAnyH_ready (rs := [4, 6]) (by kernel_rfl) (by simp) ?_
      refine AllReadyH.cons (o := ⟨some 45, _, _, _, _, _⟩) rfl (fun K hK => ?_) (AllReadyH.cons (o := ⟨some 47, _, _, _, _, _⟩) rfl (fun K hK => ?_) (AllReadyH.nil))
      · (try rw [if_pos (by rfl)])
        go_simp
        try dsimp only
        refine hK.out _ _ ?_ (fun hHeld => ?_)
        · first | exact HS0.out | exact HS1.out
        clear hK K
        try simp only [Act.put, List.setIfInBounds_toArray, List.set_cons_zero, List.set_cons_succ]
        refine wpAnyH_ready (rs := [6]) (by kernel_rfl) (by simp) ?_
        refine AllReadyH.cons (o := ⟨some 47, _, _, _, _, _⟩) rfl (fun K hK => ?_) (AllReadyH.nil)
        rw [if_pos (by rfl)]
        refine wp_build_idc _ rfl f1 rfl ?_
        try dsimp only
        refine hK.out _ _ ?_ (fun hHeld => ?_)
        · exact HS1.out
        clear hK K
        try simp only [Act.put, List.setIfInBounds_toArray, List.set_cons_zero, List.set_cons_succ]
        refine wpAnyH_ready (rs := [7]) (by kernel_rfl) (by simp) ?_
        refine AllReadyH.cons (o := ⟨some 48, _, _, _, _, _⟩) rfl (fun K hK => ?_) (AllReadyH.nil)
        rw [if_pos (by rfl)]
        refine oper_append (.tmp 45) (.tmp 47) _ _ rfl _ _ rfl rfl _ _ R1.out ?_
        refine hK.out _ _ ?_ (fun hHeld => ?_)
        · exact HS6.out
        clear hK K
        try simp only [Act.put, List.setIfInBounds_toArray, List.set_cons_zero, List.set_cons_succ]
        refine wpAnyH_take (i := 8) (oi := ⟨some 49, _, _, _, _, _⟩) (v := ?_) rfl (by kernel_rfl) (by kernel_rfl) (by kernel_rfl) (fun _ _ _ h => h) (Or.inl ⟨by rfl, ?_⟩) (by assumption) ?_
        rotate_left
        · intro w hSw; (try dsimp only at hSw); go_simp; try (with_reducible rfl)
        rotate_left 0
        try simp only [Act.put, List.setIfInBounds_toArray, List.set_cons_zero, List.set_cons_succ]
        refine wpAnyH_take (i := 9) (oi := ⟨some 50, _, _, _, _, _⟩) (v := ?_) rfl (by kernel_rfl) (by kernel_rfl) (by kernel_rfl) (fun _ _ _ h => h) (Or.inl ⟨by rfl, ?_⟩) (by assumption) ?_
        rotate_left
        · intro w hSw; (try dsimp only at hSw); go_simp; try (with_reducible rfl)
        rotate_left 0
        try simp only [Act.put, List.setIfInBounds_toArray, List.set_cons_zero, List.set_cons_succ]
        refine wpAnyH_ready (rs := [10]) (by kernel_rfl) (by simp) ?_
        refine AllReadyH.cons (o := ⟨none, _, _, _, _, _⟩) rfl (fun K hK => ?_) (AllReadyH.nil)
        go_simp
        refine hK.out _ _ ?_ (fun hHeld => ?_)
        · exact HS7.out
        clear hK K
        try simp only [Act.put, List.setIfInBounds_toArray, List.set_cons_zero, List.set_cons_succ]
        refine wpAnyH_done (by kernel_rfl) ?_ _
        clear hHeld
        go_wp2
        go_end0
        exact ⟨rfl, HEND.out⟩
      · rw [if_pos (by rfl)]
        refine wp_build_idc _ rfl f1 rfl ?_
        try dsimp only
        refine hK.out _ _ ?_ (fun hHeld => ?_)
        · exact HS1.out
        clear hK K
        try simp only [Act.put, List.setIfInBounds_toArray, List.set_cons_zero, List.set_cons_succ]
        refine wpAnyH_ready (rs := [4]) (by kernel_rfl) (by simp) ?_
        refine AllReadyH.cons (o := ⟨some 45, _, _, _, _, _⟩) rfl (fun K hK => ?_) (AllReadyH.nil)
        (try rw [if_pos (by rfl)])
        go_simp
        try dsimp only
        refine hK.out _ _ ?_ (fun hHeld => ?_)
        · first | exact HS0.out | exact HS1.out
        clear hK K
        try simp only [Act.put, List.setIfInBounds_toArray, List.set_cons_zero, List.set_cons_succ]
        refine wpAnyH_ready (rs := [7]) (by kernel_rfl) (by simp) ?_
        refine AllReadyH.cons (o := ⟨some 48, _, _, _, _, _⟩) rfl (fun K hK => ?_) (AllReadyH.nil)
        rw [if_pos (by rfl)]
        refine oper_append (.tmp 45) (.tmp 47) _ _ rfl _ _ rfl rfl _ _ R1.out ?_
        refine hK.out _ _ ?_ (fun hHeld => ?_)
        · exact HS6.out
        clear hK K
        try simp only [Act.put, List.setIfInBounds_toArray, List.set_cons_zero, List.set_cons_succ]
        refine wpAnyH_take (i := 8) (oi := ⟨some 49, _, _, _, _, _⟩) (v := ?_) rfl (by kernel_rfl) (by kernel_rfl) (by kernel_rfl) (fun _ _ _ h => h) (Or.inl ⟨by rfl, ?_⟩) (by assumption) ?_
        rotate_left
        · intro w hSw; (try dsimp only at hSw); go_simp; try (with_reducible rfl)
        rotate_left 0
        try simp only [Act.put, List.setIfInBounds_toArray, List.set_cons_zero, List.set_cons_succ]
        refine wpAnyH_take (i := 9) (oi := ⟨some 50, _, _, _, _, _⟩) (v := ?_) rfl (by kernel_rfl) (by kernel_rfl) (by kernel_rfl) (fun _ _ _ h => h) (Or.inl ⟨by rfl, ?_⟩) (by assumption) ?_
        rotate_left
        · intro w hSw; (try dsimp only at hSw); go_simp; try (with_reducible rfl)
        rotate_left 0
        try simp only [Act.put, List.setIfInBounds_toArray, List.set_cons_zero, List.set_cons_succ]
        refine wpAnyH_ready (rs := [10]) (by kernel_rfl) (by simp) ?_
        refine AllReadyH.cons (o := ⟨none, _, _, _, _, _⟩) rfl (fun K hK => ?_) (AllReadyH.nil)
        go_simp
        refine hK.out _ _ ?_ (fun hHeld => ?_)
        · exact HS7.out
        clear hK K
        try simp only [Act.put, List.setIfInBounds_toArray, List.set_cons_zero, List.set_cons_succ]
        refine wpAnyH_done (by kernel_rfl) ?_ _
        clear hHeld
        go_wp2
        go_end0
        exact ⟨rfl, HEND.out⟩
end Go.Proofs.YtphknicdllcbmaaDoor
namespace Go.Proofs.YtphknicdllcbmaaDoor
open Go Go.RowKit Go.Shelf TreeM

section
variable {P : Program} {ops : Array Oper} {rest : List Oper} {o : Oper} {a : Act} {w : World} {Q : Exit → Act → World → Prop}
theorem run_loadAt_cells {P : Program} (ty : TypeId) (ad : Addr) (N : Nat) (f : Nat → Value) (e : TypeId) (w : World) (hg : ∀ i, i < N → w.cell? (ad.add i) = some (f i))
    (hu : P.underlying ty = some (.array N e)) (hi : (P.info? ty).map (·.size) = some N) : (Instr.loadAt ty (.pointer (some ad))).run P w = .ok (.agg (arr N f)) w := by
  have hl := run_loadCells_list (P := P) w ad (arr N f).toList (fun j v hv => by
    rw [Array.getElem?_toList, arr_get] at hv
    by_cases hj : j < N
    · rw [if_pos hj] at hv
      cases hv
      exact hg j hj
    · rw [if_neg hj] at hv; cases hv)
  simp only [Array.length_toList, arr_size, Array.toArray_toList] at hl
  cases hq : P.info? ty with
  | none => simp [hq] at hi
  | some i =>
    have hs : i.size = N := by simpa [hq] using hi
    have hagg : (isAgg ty).run P w = .ok true w := by
      unfold isAgg
      rw [Sem.run_bind, run_underlying hu w]
      rfl
    simp [Instr.loadAt, Instr.sureAddr, loadVar, Sem.run_bind, hagg, sizeOf, typeInfo, hq, hs, hl]
theorem wpList_load_at (hgd : o.guard = none) (ty : TypeId) (x : Operand) (ho : o.op = .load ty x) (ad : Addr) (hx : a.eval x = .pointer (some ad)) (N : Nat) (f : Nat → Value) (e : TypeId)
    (hg : ∀ i, i < N → w.cell? (ad.add i) = some (f i)) (hu : P.underlying ty = some (.array N e)) (hi : (P.info? ty).map (·.size) = some N)
    (h : wpList P ops Q rest (a.put o.dst (.agg (arr N f))) w) : wpList P ops Q (o :: rest) a w := by
  refine wpList_plain hgd fun K hK => ?_
  unfold Oper.wp
  have hl := run_loadAt_cells (P := P) ty ad N f e w hg hu hi
  simp [execOp, ho, hx, hl, Result.andThen, Oper.upon]
  exact hK _ _ h
theorem wpListIn_load_at {F : Fence} {n : Nat} (hF : ∀ f, F.fn f) (hgd : o.guard = none) (ty : TypeId) (x : Operand) (ho : o.op = .load ty x) (ad : Addr) (hx : a.eval x = .pointer (some ad)) (N : Nat) (f : Nat → Value) (e : TypeId)
    (hg : ∀ i, i < N → w.cell? (ad.add i) = some (f i)) (hu : P.underlying ty = some (.array N e)) (hi : (P.info? ty).map (·.size) = some N)
    (h : wpListIn F n P ops Q rest (a.put o.dst (.agg (arr N f))) w) : wpListIn F n P ops Q (o :: rest) a w := by
  refine wpListIn_val hF hgd (by rw [ho]; intro c hc; cases hc) _ w ?_ h
  have hl := run_loadAt_cells (P := P) ty ad N f e w hg hu hi
  simp [execOp, ho, hx, hl, Result.andThen]
end

def dz : D := fun _ => 0
/-- A slice of IDs that reads as l, in blocks that 'ok' lets in. -/
def RdI (W : World) (ok : Nat → Prop) (v : Value) (l : List D) : Prop :=
  ∃ A c, v = .slice A l.length c ∧ l.length ≤ c ∧ l.length ≤ 4398046511104 ∧ (0 < l.length → ∃ ad : Addr, A = some ad ∧ ok ad.block ∧ ∀ k, k < l.length → ∀ i, i < 32 → W.cell? (ad.add (32 * k + i)) = some (bv (l.getD k dz i)))
theorem RdI.kept {W W' : World} {ok : Nat → Prop} {v : Value} {l : List D} (h : RdI W ok v l) (hk : ∀ (a : Addr) (x : Value), ok a.block → W.cell? a = some x → W'.cell? a = some x) : RdI W' ok v l := by
  obtain ⟨A, c, hv, h1, h2, h3⟩ := h
  refine ⟨A, c, hv, h1, h2, fun h0 => ?_⟩
  obtain ⟨ad, hA, hok, hc⟩ := h3 h0
  exact ⟨ad, hA, hok, fun k hk' i hi => hk _ _ (by rw [block_add]; exact hok) (hc k hk' i hi)⟩
theorem RdI.mono {W : World} {ok ok' : Nat → Prop} {v : Value} {l : List D} (h : RdI W ok v l) (hm : ∀ b, ok b → ok' b) : RdI W ok' v l := by
  obtain ⟨A, c, h1, h2, h3, h4⟩ := h
  refine ⟨A, c, h1, h2, h3, fun h0 => ?_⟩
  obtain ⟨ad, q1, q2, q3⟩ := h4 h0
  exact ⟨ad, q1, hm _ q2, q3⟩
theorem RdI.turn {W W' : World} {S ok : Nat → Prop} {v : Value} {l : List D} (h : RdI W ok v l) (ht : Turn S W W') (hs : ∀ b, ok b → ¬ S b) : RdI W' ok v l := h.kept fun _ _ ha hx => ht.cell hx (hs _ ha)
theorem RdI.below {W W' : World} {v : Value} {l : List D} (h : RdI W (fun b => b < W.heap.size) v l) (hb : Below W.heap.size W W') : RdI W' (fun b => b < W'.heap.size) v l :=
  (h.kept fun _ _ ha hx => (hb.cell ha).trans hx).mono fun _ hb' => Nat.lt_of_lt_of_le hb' hb.size
theorem RdI.old {W0 W W' : World} {v : Value} {l : List D} (h : RdI W (fun b => b < W0.heap.size) v l) (hb : Below W0.heap.size W W') : RdI W' (fun b => b < W0.heap.size) v l := h.kept fun _ _ ha hx => (hb.cell ha).trans hx
theorem RdI.len {W : World} {ok : Nat → Prop} {A : Option Addr} {n c : Nat} {l : List D} (h : RdI W ok (.slice A n c) l) : n = l.length := by
  obtain ⟨A', c', hv, _⟩ := h
  injection hv
theorem RdI.max {W : World} {ok : Nat → Prop} {v : Value} {l : List D} (h : RdI W ok v l) : l.length ≤ 4398046511104 := by
  obtain ⟨A', c', hv, h1, h2, _⟩ := h
  exact h2
theorem RdI.take {W : World} {ok : Nat → Prop} {A : Option Addr} {n c : Nat} {l : List D} (h : RdI W ok (.slice A n c) l) {k : Nat} (hk : k ≤ n) : RdI W ok (.slice A k c) (l.take k) := by
  obtain ⟨A', c', hv, h1, h2, h3⟩ := h
  injection hv with e1 e2 e3
  subst e1; subst e2; subst e3
  have hl : (l.take k).length = k := by rw [List.length_take]; omega
  refine ⟨A, c, by rw [hl], by omega, by omega, fun h0 => ?_⟩
  obtain ⟨ad, hA, hok, hc⟩ := h3 (by omega)
  refine ⟨ad, hA, hok, fun j hj i hi => ?_⟩
  rw [hc j (by omega) i hi]
  congr 2
  rw [List.getD_eq_getElem?_getD, List.getD_eq_getElem?_getD, List.getElem?_take, if_pos (by omega)]
/-- The address of a slice that begins later. -/
def cutI (A : Option Addr) (cap k : Nat) : Option Addr := if cap = k then A else A.map (·.add (k * 32))
theorem RdI.drop {W : World} {ok : Nat → Prop} {A : Option Addr} {n c : Nat} {l : List D} (h : RdI W ok (.slice A n c) l) {k : Nat} (hk : k ≤ n) : RdI W ok (.slice (cutI A c k) (n - k) (c - k)) (l.drop k) := by
  obtain ⟨A', c', hv, h1, h2, h3⟩ := h
  injection hv with e1 e2 e3
  subst e1; subst e2; subst e3
  have hl : (l.drop k).length = l.length - k := List.length_drop
  refine ⟨cutI A c k, c - k, by rw [hl], by omega, by omega, fun h0 => ?_⟩
  obtain ⟨ad, rfl, hok, hc⟩ := h3 (by omega)
  have hne : ¬ c = k := by omega
  refine ⟨ad.add (k * 32), by simp [cutI, hne], by rw [block_add]; exact hok, fun j hj i hi => ?_⟩
  rw [add_add, show k * 32 + (32 * j + i) = 32 * (k + j) + i from by omega, hc (k + j) (by omega) i hi]
  congr 2
  rw [List.getD_eq_getElem?_getD, List.getD_eq_getElem?_getD, List.getElem?_drop]
theorem RdI.at_ {W : World} {ok : Nat → Prop} {A : Option Addr} {n c : Nat} {l : List D} (h : RdI W ok (.slice A n c) l) {k : Nat} (hk : k < n) : ∃ ad : Addr, A = some ad ∧ ok ad.block ∧ ∀ i, i < 32 → W.cell? ((ad.add (32 * k)).add i) = some (bv (l.getD k dz i)) := by
  obtain ⟨A', c', hv, h1, h2, h3⟩ := h
  injection hv with e1 e2 e3
  subst e1; subst e2; subst e3
  obtain ⟨ad, hA, hok, hc⟩ := h3 (by omega)
  exact ⟨ad, hA, hok, fun i hi => by rw [add_add]; exact hc k hk i hi⟩
theorem RdI.nil (W : World) (ok : Nat → Prop) (A : Option Addr) (c : Nat) : RdI W ok (.slice A 0 c) [] := ⟨A, c, rfl, Nat.zero_le _, by simp, fun h => by simp at h⟩
theorem idCells_at (l : List D) (k i : Nat) (hk : k < l.length) (hi : i < 32) : (idCells l)[32 * k + i]? = some (bv (l.getD k dz i)) := by
  rw [idCells_get l k i hk hi, List.getD_eq_getElem?_getD, List.getElem?_eq_getElem hk]
  rfl
/-- A row of the call's own, read. -/
theorem own_rd {w : World} {B n : Nat} {v : Value} {l : List D} (h : w.ownsRow B 30 32 v n (idCells l)) (hm : n ≤ 4398046511104) : RdI w (fun b => v.ownBlock = some b ∧ B ≤ b ∧ b < w.heap.size) v l := by
  have hn : l.length = n := by
    have := h.1
    rw [idCells_length] at this
    omega
  subst hn
  obtain ⟨A, c, rfl, hc⟩ := own_len h
  refine ⟨A, c, rfl, hc, hm, fun h0 => ?_⟩
  obtain ⟨G, rfl⟩ := own_addrN h h0
  refine ⟨⟨G, 0, none⟩, rfl, ⟨rfl, h.lt G rfl⟩, fun k hk i hi => ?_⟩
  rw [add_zero_block, h.cellAt (32 * k + i) (by omega), idCells_at l k i hk hi]
/-- The cells that a slice of IDs reads as. -/
theorem RdI.cells {W : World} {ok : Nat → Prop} {A : Addr} {n c : Nat} {l : List D} (h : RdI W ok (.slice (some A) n c) l) : ∀ j u, (idCells l)[j]? = some u → W.cell? (A.add j) = some u := by
  intro j u hu
  have hj : j < l.length * 32 := by
    have := (List.getElem?_eq_some_iff.1 hu).1
    rwa [idCells_length] at this
  have hn := h.len
  obtain ⟨ad, e, _, hc⟩ := h.at_ (k := j / 32) (by omega)
  injection e with e
  subst e
  have e1 : j = 32 * (j / 32) + j % 32 := (Nat.div_add_mod j 32).symm
  have := hc (j % 32) (by omega)
  rw [add_add, ← e1] at this
  rw [this, ← hu]
  conv => rhs; rw [e1]
  exact (idCells_at l _ _ (by omega) (by omega)).symm
theorem idCells_one' (l : List D) : ∀ u ∈ idCells l, u.oneCell' = true := fun u hu => by
  simp only [idCells, List.mem_flatMap] at hu
  obtain ⟨f, _, hu⟩ := hu
  exact idc_one f u hu
/-- An append of a slice of IDs onto a row of the call's own. -/
theorem app_ids {B : Nat} {w : World} (hB : B ≤ w.heap.size) {v : Value} {n : Nat} {xs : List Value} (hown : w.ownsRow B 30 32 v n xs) {ok : Nat → Prop} {A : Addr} {m c : Nat} {l : List D} (hr : RdI w ok (.slice (some A) m c) l) (hn : n + m ≤ 4398046511104) :
    ∃ v' w', (Builtin.append_ #[22, 22] 22 #[v, .slice (some A) m c]).run Tryd.prog w = .ok v' w' ∧
      w'.ownsRow B 30 32 v' (n + m) (xs ++ idCells l) ∧ w.grownBy w' v.ownBlock ∧ (v'.ownBlock = v.ownBlock ∨ v'.ownBlock = some w.heap.size) := by
  obtain ⟨i0, hi, hz0, hz1, hz2⟩ := info_parts info_id
  obtain ⟨v', w', hrun, hown', hgr, _, hv'⟩ := run_append_own_at (P := Tryd.prog) w B 22 22 30 i0 _ 32 32 Tryd.underlying22 hi hz0 hz1 hz2 (by simp [Value.cells]) (by omega) v n xs hown A m c (idCells l) (by rw [idCells_length, ← hr.len])
    hr.cells (idCells_one' l) (by unfold maxLen; omega) (by omega) hB
  exact ⟨v', w', hrun, hown', hgr, hv'⟩
end Go.Proofs.YtphknicdllcbmaaDoor
namespace Go.Proofs.YtphknicdllcbmaaDoor
open Go Go.RowKit Go.Shelf TreeM

/-- A range of these leaves. -/
def TreeAt (w : World) (Z : Nat → Prop) (g : Nat) (L : List D) : Prop := RangeAt w Z g L.length (tops L)
/-- What a call leaves of a range. -/
def TLeft (Z : Nat → Prop) (g : Nat) (L : List D) (w w' : World) : Prop := ∃ Z', TreeAt w' Z' g L ∧ Turn Z w w' ∧ ∀ i, Z' i → Z i ∨ w.heap.size ≤ i
theorem TLeft.refl {w : World} {Z : Nat → Prop} {g : Nat} {L : List D} (h : TreeAt w Z g L) : TLeft Z g L w w := ⟨Z, h, Turn.refl _ _, fun _ hi => .inl hi⟩
theorem TLeft.below {w w1 w2 : World} {Z : Nat → Prop} {g : Nat} {L : List D} (h : TLeft Z g L w w1) (hb : Below w1.heap.size w1 w2) : TLeft Z g L w w2 := by
  obtain ⟨Z', h1, h2, h3⟩ := h
  exact ⟨Z', RangeAt.below h1 hb, h2.trans (Turn.of_new hb Z) (fun _ _ hi => hi), h3⟩
theorem put_tree (w0 : World) (hT : Tables w0) (Z : Nat → Prop) (g : Nat) (L : List D) (f : D) (w w1 : World) (h : TLeft Z g L w w1) (hZ : ∀ i, Z i → w0.heap.size ≤ i) (hb0 : Below w0.heap.size w0 w) (hn : L.length < 1099511627776) :
    Calls Tryd.prog 32 #[.pointer (some ⟨g, 0, none⟩), .agg (arr 32 fun i => bv (f i))] w1 fun e w' => e = .returned (.tuple #[]) ∧ TLeft Z g (L ++ [f]) w w' := by
  obtain ⟨Z1, h1, h2, h3⟩ := h
  have hs := hb0.size
  have hb1 : Below w0.heap.size w0 w1 := hb0.trans (h2.below hs fun i hi hz => by have := hZ i hz; omega)
  refine (put_any w0 hT Z1 g L.length (tops L) f w1 h1 (fun i hi => by rcases h3 i hi with h | h; exact hZ i h; omega) hb1 hn).mono ?_
  rintro e w' ⟨rfl, Z2, q1, q2, q3⟩
  refine ⟨rfl, Z2, ?_, h2.trans q2 (fun i hi hz => (h3 i hz).resolve_right (by omega)), fun i hi => ?_⟩
  · unfold TreeAt
    rw [tops_snoc L.length L f rfl, List.length_append, List.length_singleton]
    exact q1
  · rcases q3 i hi with h | h
    · exact h3 i h
    · exact .inr (Nat.le_trans h2.size h)
theorem take_succ_get (l : List D) (k : Nat) (h : k < l.length) : l.take (k + 1) = l.take k ++ [l.getD k dz] := by
  rw [List.take_succ_eq_append_getElem h, List.getD_eq_getElem?_getD, List.getElem?_eq_getElem h]
  rfl
theorem tree_new (w : World) : TreeAt (w.alloc (.cells #[.int .i64 0, .slice none 0 0] 61)) (fun i => i = w.heap.size) w.heap.size [] := by
  refine ⟨.slice none 0 0, Blk.newAt w _ rfl rfl, ?_, rfl, fun i hi => by simp [Value.ownBlock] at hi, fun i hi => by subst hi; simp, ?_, by simp⟩
  · rw [tops_nil]
    exact World.ownsRow_nil _ _ _ _
  · rw [tops_nil]
    exact pop_zero.symm
/-- What holds at the head of a round: these have been put. -/
theorem put_step (w0 : World) (hT : Tables w0) (Z : Nat → Prop) (g : Nat) (L l : List D) (k : Nat) (hk : k < l.length) (w wr : World) (h : TLeft Z g (L ++ l.take k) w wr) (hZ : ∀ i, Z i → w0.heap.size ≤ i) (hb0 : Below w0.heap.size w0 w) (hn : L.length + l.length ≤ 1099511627776) :
    Calls Tryd.prog 32 #[.pointer (some ⟨g, 0, none⟩), .agg (arr 32 fun i => bv (l.getD k dz i))] (wr.alloc (.cells (arr 32 fun i => bv (l.getD k dz i)) 30)) fun e w' => e = .returned (.tuple #[]) ∧ TLeft Z g (L ++ l.take (k + 1)) w w' := by
  have h1 := h.below ((Below.refl wr.heap.size wr).alloc (Nat.le_refl _) (.cells (arr 32 fun i => bv (l.getD k dz i)) 30))
  have := put_tree w0 hT Z g (L ++ l.take k) (l.getD k dz) w _ h1 hZ hb0 (by rw [List.length_append, List.length_take]; omega)
  rw [List.append_assoc, ← take_succ_get l k hk] at this
  exact this
set_option maxRecDepth 100000 in
set_option maxHeartbeats 2000000 in
theorem treeOf_any (v : Value) (l : List D) (w : World) (hT : Tables w) (hr : RdI w (fun b => b < w.heap.size) v l) (hn : l.length ≤ 1099511627776) :
    Calls Tryd.prog 12 #[v] w fun e w' => ∃ g Z, e = .returned (.pointer (some ⟨g, 0, none⟩)) ∧ TreeAt w' Z g l ∧ Below w.heap.size w w' ∧ ∀ i, Z i → w.heap.size ≤ i := by
  obtain ⟨A, c, rfl, _⟩ := id hr
  obtain ⟨n, hnl⟩ : ∃ n, l.length = n := ⟨_, rfl⟩
  rw [hnl] at hr hn ⊢
  have hW1 := tree_new w
  have hb1 : Below w.heap.size w (w.alloc (.cells #[.int .i64 0, .slice none 0 0] 61)) := (Below.refl _ _).alloc (Nat.le_refl _) _
  have HR := Lib.hid hr
  have HT := Lib.hid hT
  have HNL := Lib.hid hnl
  have HB1 := Lib.hid hb1
  have HW1 := Lib.hid hW1
  have HN := Lib.hid hn
  clear hr hT hb1 hW1
  go_enter Tryd.func12, Tryd.ntmps12
  go_wp2_with (refine wpList_build rfl 61 #[.int .i64 0, .slice none 0 0] rfl (by kernel_rfl) ?_)
  go_loopw [10] (fun c wr => ∃ k : Nat, k ≤ n ∧ c = .int .i64 (k : Int) ∧ TLeft (fun i => i = w.heap.size) w.heap.size ([] ++ l.take k) (w.alloc (.cells #[.int .i64 0, .slice none 0 0] 61)) wr) (fun c _ => n - (intOf c).toNat)
  case atStart => exact ⟨0, by omega, rfl, TLeft.refl HW1.out⟩
  case round =>
    obtain ⟨k, hk, rfl, hL⟩ := hrel
    by_cases hlt : k < n
    · have hbr : Below w.heap.size w wr := by
        obtain ⟨Z1, q1, q2, q3⟩ := id hL
        exact HB1.out.trans (q2.below HB1.out.size fun i hi hz => by omega)
      obtain ⟨ad, rfl, hok, hcell⟩ := (HR.out.old hbr).at_ hlt
      have hkn : (k : Int) < (n : Int) := by omega
      have HP := Lib.hid (put_step w HT.out (fun i => i = w.heap.size) w.heap.size [] l k (by rw [HNL.out]; exact hlt) _ _ hL (fun i hi => Nat.le_of_eq hi.symm) HB1.out (by rw [HNL.out]; simp; exact HN.out))
      obtain ⟨f, hf⟩ : ∃ f, l.getD k dz = f := ⟨_, rfl⟩
      rw [hf] at hcell HP
      have HC := Lib.hid hcell
      have HM := Lib.hid (Nat.mul_comm 32 k)
      clear hf hcell hL hbr hok
      go_wp2_with (first
        | (refine wpList_load_at rfl 30 _ rfl (ad.add (32 * k)) (by first | rfl | (rw [HM.out]; rfl)) 32 (fun i => bv (f i)) 5 HC.out Tryd.underlying30 (by kernel_rfl) ?_)
        | (refine wpList_store_row rfl 30 _ _ rfl wr.heap.size (arr 32 fun i => bv (f i)) rfl rfl 30 _ (heap_alloc_new wr _) (by rw [arr_size]; kernel_rfl) (by rw [arr_size]; rfl) (arr_all_bv _ _) ?_; rw [World.setRow_alloc_new])
        | (refine wpList_load_arr rfl 30 _ rfl wr.heap.size rfl 30 (arr 32 fun i => bv (f i)) _ (Blk.newAt wr _ rfl rfl) Tryd.underlying30 rfl (by rw [arr_size]; kernel_rfl) ?_)
        | (go_at_call 32; refine HP.out.mono ?_; rintro e W3 ⟨rfl, hq⟩; have Q3 := Lib.hid hq; clear hq))
      go_roundw
      case rel => exact ⟨k + 1, by omega, by go_num, Q3.out⟩
      case measure => simp [intOf]; omega
    · obtain rfl : k = n := by omega
      have e : [] ++ l.take k = l := by rw [← HNL.out]; simp
      rw [e] at hL
      have HL := Lib.hid hL
      clear hL e
      go_wp2
      go_ret
      obtain ⟨Z1, q1, q2, q3⟩ := HL.out
      refine ⟨_, Z1, rfl, q1, HB1.out.trans (q2.below HB1.out.size fun i hi hz => by omega), fun i hi => ?_⟩
      have := HB1.out.size
      rcases q3 i hi with h | h <;> omega
end Go.Proofs.YtphknicdllcbmaaDoor
namespace Go.Proofs.YtphknicdllcbmaaDoor
open Go Go.RowKit Go.Shelf TreeM
attribute [local go_sem] Oper.semAt_some

/-- The numbers below m from the last down to k. -/
def bk (m k : Nat) : List Nat := ((List.range m).drop k).reverse
theorem bk_full (m : Nat) : bk m m = [] := by simp [bk]
theorem bk_zero (m : Nat) : bk m 0 = (List.range m).reverse := by simp [bk]
theorem bk_step {m k : Nat} (h : k < m) : bk m k = bk m (k + 1) ++ [k] := by
  unfold bk
  rw [List.drop_eq_getElem_cons (by simpa using h), List.reverse_cons]
  simp
theorem bk_prefix (m k : Nat) : bk m k <+: bk m 0 := by
  refine ⟨((List.range m).take k).reverse, ?_⟩
  unfold bk
  rw [List.drop_zero, ← List.reverse_append, List.take_append_drop]
def encK (l : List D) (k : Nat) : Array Value := #[.int .i64 (k : Int), .agg (arr 32 fun i => bv (l.getD k dz i))]
set_option maxRecDepth 100000 in
set_option maxHeartbeats 1000000 in
theorem backward_any (A : Option Addr) (n c : Nat) (w : World) : CallsIn Fence.wide 0 Tryd.prog 33 #[.slice A n c] w fun e w' => e = .returned (.func (.func 46) #[] #[.pointer (some ⟨w.heap.size, 0, none⟩)]) ∧ w' = w.alloc (.cells #[.slice A n c] 22) := by
  refine callsIn_of_wp Tryd.func33 rfl trivial ?_ rfl
  simp only [Tryd.ntmps33, List.size_toArray, List.length_cons, List.length_nil, Nat.reduceAdd, Nat.reduceSub, Array.replicate_succ, Array.replicate_zero, List.push_toArray, List.append_toArray, List.nil_append, List.cons_append]
  gi_wp2
  go_ret
  exact ⟨rfl, rfl⟩
set_option maxRecDepth 100000 in
set_option maxHeartbeats 1000000 in
theorem back_iter (j B : Nat) (own : Nat → Prop) (_hown : ∀ b, own b → b < B) (J Jx : List Nat → World → Prop) (_hJ : AbB B J) (_hJx : AbB B Jx) (Bp : Nat) (A : Option Addr) (m c : Nat) (l : List D) (hm : m ≤ 4398046511104)
    (W : World) (_hB : B = W.heap.size) (hbox : W.cell? ⟨Bp, 0, none⟩ = some (.slice A m c)) (hbo : ¬ own Bp) (hr : RdI W (fun b => b < B ∧ ¬ own b) (.slice A m c) l)
    (hY : ∀ q x W1, (q ++ [x]) <+: bk m 0 → J q W1 → YieldAt Fence.wide 0 Tryd.prog j (encK l x) W1 fun e W' => (e = .returned (.bool true) ∧ J (q ++ [x]) W' ∧ Keep own W1 W') ∨ (e = .returned (.bool false) ∧ Jx (q ++ [x]) W'))
    (h0 : J [] W) :
    CallsIn Fence.wide 0 Tryd.prog 46 #[.func (.yield j) #[] #[], .pointer (some ⟨Bp, 0, none⟩)] W fun e W' => (∃ v, e = .returned v) ∧ (J (bk m 0) W' ∨ ∃ q, q <+: bk m 0 ∧ q ≠ [] ∧ Jx q W') := by
  have HY := Lib.hid hY
  have H0 := Lib.hid h0
  have HR := Lib.hid hr
  have HBo := Lib.hid hbo
  clear _hJ _hJx hY _hown h0 hr
  refine callsIn_of_wp Tryd.func46 rfl trivial ?_ rfl
  simp only [Tryd.ntmps46, List.size_toArray, List.length_cons, List.length_nil, Nat.reduceAdd, Nat.reduceSub, Array.replicate_succ, Array.replicate_zero, List.push_toArray, List.append_toArray, List.nil_append, List.cons_append]
  gi_wp2
  gi_loopw [3] (fun i wr => ∃ k : Nat, k ≤ m ∧ i = .int .i64 ((k : Int) - 1) ∧ J (bk m k) wr ∧ wr.cell? ⟨Bp, 0, none⟩ = some (.slice A m c) ∧ RdI wr (fun b => b < B ∧ ¬ own b) (.slice A m c) l) (fun i _ => (intOf i + 1).toNat)
  case atStart => exact ⟨m, Nat.le_refl _, rfl, by rw [bk_full]; exact H0.out, hbox, HR.out⟩
  case round =>
    clear hbox
    obtain ⟨k, hk, rfl, hJ, hbox, hR⟩ := hrel
    obtain ⟨q, rfl⟩ | rfl : (∃ q, k = q + 1) ∨ k = 0 := by
      cases k with
      | zero => exact .inr rfl
      | succ q => exact .inl ⟨q, rfl⟩
    · obtain ⟨ad, rfl, hok, hcell⟩ := hR.at_ (k := q) (by omega)
      have hst := bk_step (m := m) (k := q) (by omega)
      have HNE := Lib.hid hst
      have hR1 := HY.out (bk m (q + 1)) q wr (by rw [← hst]; exact bk_prefix _ _) hJ
      unfold encK at hR1
      rw [← hst] at hR1
      obtain ⟨f, hf⟩ : ∃ f, l.getD q dz = f := ⟨_, rfl⟩
      rw [hf] at hcell hR1
      have e1 : (((q + 1 : Nat) : Int) - 1) = (q : Int) := by omega
      rw [e1]
      have hge : (q : Int) ≥ 0 := by omega
      have hge2 : (0 : Int) ≤ (q : Int) := by omega
      have hqm : (q : Int) < (m : Int) := by omega
      have hqm2 : (q : Int) ≤ 4398046511104 := by omega
      have HC := Lib.hid hcell
      have HM := Lib.hid (Nat.mul_comm 32 q)
      have HRR := Lib.hid hR
      have HBOX := Lib.hid hbox
      obtain ⟨fn, tmps, assign, body, hy, hR1⟩ := hR1
      clear hf hcell hJ hR hok hst e1
      gi_wp2_with (first
        | (refine wpListIn_load_at (fun _ => trivial) rfl 30 _ rfl (ad.add (32 * q)) (by first | rfl | (rw [HM.out]; rfl)) 32 (fun i => bv (f i)) 5 HC.out Tryd.underlying30 (by kernel_rfl) ?_)
        | (refine ⟨rfl, ?_⟩; refine hR1.mono ?_; clear hR1; rintro e W' (⟨rfl, hJ', hk'⟩ | ⟨rfl, hJx'⟩)))
      · have hkk : ∀ (a : Addr) (x : Value), (a.block < B ∧ ¬ own a.block) → wr.cell? a = some x → W'.cell? a = some x := fun a x ha h => cell_keep hk' ha.2 h
        exact ⟨⟨q, by omega, rfl, hJ', cell_keep hk' HBo.out HBOX.out, HRR.out.kept hkk⟩, by simp [intOf]⟩
      · refine bodyPost_ret (results_none rfl _ _ _) rfl ?_
        exact ⟨⟨_, rfl⟩, .inr ⟨_, bk_prefix _ _, by rw [HNE.out]; simp, hJx'⟩⟩
    · have HJ0 := Lib.hid hJ
      clear hJ hbox
      have e1 : (((0 : Nat) : Int) - 1) = -1 := rfl
      rw [e1]
      gi_wp2
      go_end0
      exact ⟨⟨_, rfl⟩, .inl HJ0.out⟩
theorem back_seq (own : Nat → Prop) (Bp : Nat) (A : Option Addr) (m c : Nat) (l : List D) (hm : m ≤ 4398046511104) (w : World) (hown : ∀ b, own b → b < w.heap.size)
    (hbox : w.cell? ⟨Bp, 0, none⟩ = some (.slice A m c)) (hbo : ¬ own Bp) (hr : RdI w (fun b => b < w.heap.size ∧ ¬ own b) (.slice A m c) l) :
    SeqC Tryd.prog 46 #[.pointer (some ⟨Bp, 0, none⟩)] (encK l) own (bk m 0) w := by
  intro j J Jx W hW hJ hJx hY h0
  have hBp : Bp < w.heap.size := block_lt_of_cell hbox
  have hr2 : RdI W (fun b => b < W.heap.size ∧ ¬ own b) (.slice A m c) l := (hr.kept fun a x ha h => (hW.cell (p := a) ha.1).trans h).mono fun b hb => ⟨Nat.lt_of_lt_of_le hb.1 hW.size, hb.2⟩
  exact back_iter j W.heap.size own (fun b hb => Nat.lt_of_lt_of_le (hown b hb) hW.size) J Jx hJ hJx Bp A m c l hm W rfl ((hW.cell (p := ⟨Bp, 0, none⟩) hBp).trans hbox) hbo hr2 hY h0
/-- The root so far. -/
def rootVal (l : List D) (r : D) (pre : List Nat) : D := pre.foldl (fun r k => node (l.getD k dz) r) r
theorem rootVal_snoc (l : List D) (r : D) (pre : List Nat) (k : Nat) : rootVal l r (pre ++ [k]) = node (l.getD k dz) (rootVal l r pre) := by simp [rootVal]
theorem range_getD (l : List D) : (List.range l.length).map (fun k => l.getD k dz) = l := by
  apply List.ext_getElem (by simp)
  intro i h1 h2
  simp only [List.getElem_map, List.getElem_range]
  rw [List.getD_eq_getElem?_getD, List.getElem?_eq_getElem h2]
  rfl
theorem rootVal_all (ts : List D) (m : Nat) (hm : ts.length = m + 1) : rootVal ts.dropLast (ts.getD m dz) (bk m 0) = rootOf ts := by
  have hne : ts ≠ [] := by rintro rfl; simp at hm
  unfold rootVal rootOf
  rw [if_neg hne, bk_zero, List.foldl_reverse]
  have hl : ts.dropLast.length = m := by rw [List.length_dropLast, hm]; rfl
  have e : ts.getLastD (sha []) = ts.getD m dz := by
    rw [List.getLastD_eq_getLast?, List.getLast?_eq_getElem?, show ts.length - 1 = m from by omega, List.getElem?_eq_getElem (by omega), List.getD_eq_getElem?_getD, List.getElem?_eq_getElem (by omega)]
    rfl
  rw [e]
  conv => rhs; rw [← range_getD ts.dropLast, hl, List.foldr_map]
set_option maxRecDepth 100000 in
set_option maxHeartbeats 2000000 in
theorem treeRoot_any (Z : Nat → Prop) (g : Nat) (L : List D) (w : World) (hT : Tables w) (h : TreeAt w Z g L) :
    CallsIn Fence.wide 0 Tryd.prog 14 #[.pointer (some ⟨g, 0, none⟩)] w fun e w' => e = .returned (.agg (arr 32 fun i => bv (mth L i))) ∧ Below w.heap.size w w' := by
  obtain ⟨v1, hB, hO, _, _, _, hp, hle⟩ := id h
  have hpl : (tops L).length ≤ 1000 := by
    have := pop_le 41 L.length (by omega)
    omega
  have HMR := Lib.hid (root_tops L.length L rfl)
  generalize tops L = ts at *
  generalize mth L = R at *
  obtain ⟨A, c, rfl, hcap⟩ := own_len hO
  have HT := Lib.hid hT
  have HB := Lib.hid hB
  have HO := Lib.hid hO
  have hgl := hB.lt
  have hZ32 : Hid (Array.replicate 32 (bv 0) = arr 32 fun _ => bv 0) := Lib.hid (by rw [← upto_none 32 (fun _ => bv 0) (bv 0)]; exact arr_congr fun i _ => by simp)
  obtain ⟨n, hn⟩ : ∃ n, ts.length = n := ⟨_, rfl⟩
  have c1 : (w.alloc (.cells #[.int .u8 0, .int .u8 0, .int .u8 0, .int .u8 0, .int .u8 0, .int .u8 0, .int .u8 0, .int .u8 0, .int .u8 0, .int .u8 0, .int .u8 0, .int .u8 0, .int .u8 0, .int .u8 0, .int .u8 0, .int .u8 0, .int .u8 0, .int .u8 0, .int .u8 0, .int .u8 0, .int .u8 0, .int .u8 0, .int .u8 0, .int .u8 0, .int .u8 0, .int .u8 0, .int .u8 0, .int .u8 0, .int .u8 0, .int .u8 0, .int .u8 0, .int .u8 0] 30)).cell? ⟨g, 1, none⟩ = some (.slice A n c) := by
    rw [← hn]
    exact (World.cell?_alloc_lt w _ _ hgl).trans (hB.cell 1)
  rw [hn] at HO hpl hp
  have HNN := Lib.hid hn
  clear hT hB hO hn h hp
  refine callsIn_of_wp_marks Tryd.func14 rfl trivial ?_ rfl
  simp only [Tryd.ntmps14, List.size_toArray, List.length_cons, List.length_nil, Nat.reduceAdd, Nat.reduceSub, Array.replicate_succ, Array.replicate_zero, List.push_toArray, List.append_toArray, List.nil_append, List.cons_append]
  by_cases h0 : n = 0
  · subst h0
    have hts : ts = [] := List.length_eq_zero_iff.1 HNN.out
    have hR : R = sha [] := by rw [← HMR.out, hts]; rfl
    rw [hR]
    have hT0 : Tables (w.alloc (.cells (Array.replicate 32 (bv 0)) 30)) := HT.out.below ((Below.refl _ _).alloc (Nat.le_refl _) _)
    have HO1 := Lib.hid (of_any none 0 [] (by simp) (by simp) _ hT0 (fun k hk => by simp at hk))
    have hS0 : Blk (w.alloc (.cells (Array.replicate 32 (bv 0)) 30)) w.heap.size 30 (Array.replicate 32 (bv 0)) := Blk.new _ _ _
    have hb0 : Below w.heap.size w (w.alloc (.cells (Array.replicate 32 (bv 0)) 30)) := (Below.refl _ _).alloc (Nat.le_refl _) _
    have HS0 := Lib.hid hS0
    have HB0 := Lib.hid hb0
    clear hT0 hS0 hb0 hR hts
    gi_wp2_with (first
      | (refine ⟨trivial, rfl, ?_⟩; gi_at_call 31; refine HO1.out.mono ?_; rintro e W2 ⟨rfl, hb2⟩; have hS2 := HS0.out.below hb2 HS0.out.lt)
      | (refine wpListIn_store_arrW (fun _ => trivial) rfl 30 _ _ rfl w.heap.size (arr 32 fun i => bv (sha [] i)) rfl rfl 30 _ hS2 (by rw [arr_size]; kernel_rfl) (by rw [arr_size]; rfl) (arr_all_bv _ _) ?_; intro W3 hS3 hz3 hb3 hk3 hq3))
    exact ⟨_, results_cell_row (p := 2) (ty := 30) rfl _ _ w.heap.size 30 _ (0, 0) _ rfl hS3 Tryd.underlying30 rfl (by rw [arr_size]; kernel_rfl), rfl, (HB0.out.trans (hb2.mono (by simp))).trans hb3⟩
  · obtain ⟨m, rfl⟩ : ∃ m, n = m + 1 := ⟨n - 1, by omega⟩
    obtain ⟨G, rfl⟩ := own_addrN HO.out (by omega)
    obtain ⟨last, hlast⟩ : ∃ last, ts.getD m dz = last := ⟨_, rfl⟩
    have hmb : (m : Int) ≤ 1000 := by omega
    have hml : (m : Int) < ((m + 1 : Nat) : Int) := by omega
    have hml2 : (m : Int) < (m : Int) + 1 := by omega
    have hm0 : (0 : Int) ≤ (m : Int) := by omega
    have hRV : rootVal ts.dropLast last (bk m 0) = R := by rw [← hlast, rootVal_all ts m HNN.out, HMR.out]
    have hG := HO.out.lt G rfl
    have hrow : ∀ W, Below w.heap.size w W → ∀ i, i < 32 → W.cell? ((⟨G, m * 32, none⟩ : Addr).add i) = some (bv (last i)) := fun W hb i hi => by
      rw [Addr.add_mid, (hb.cell (p := ⟨G, m * 32 + i, none⟩) hG.2), HO.out.cellAt (m * 32 + i) (by omega), Nat.mul_comm m 32, idCells_at ts m i (by rw [HNN.out]; omega) hi, hlast]
    have hR0 : Blk ((w.alloc (.cells (Array.replicate 32 (bv 0)) 30)).alloc (.cells (Array.replicate 32 (bv 0)) 30)) w.heap.size 30 (Array.replicate 32 (bv 0)) := (Blk.new w _ _).alloc _
    have hS0 : Blk ((w.alloc (.cells (Array.replicate 32 (bv 0)) 30)).alloc (.cells (Array.replicate 32 (bv 0)) 30)) (w.heap.size + 1) 30 (Array.replicate 32 (bv 0)) := Blk.newAt _ _ (by simp) rfl
    have hb0 : Below w.heap.size w ((w.alloc (.cells (Array.replicate 32 (bv 0)) 30)).alloc (.cells (Array.replicate 32 (bv 0)) 30)) := ((Below.refl _ w).alloc (Nat.le_refl _) _).alloc (by simp) _
    have HX : Hid (∀ W2, Blk W2 (w.heap.size + 1) 30 (arr 32 fun i => bv (last i)) → W2.heap.size = w.heap.size + 2 → Below (w.heap.size + 1) ((w.alloc (.cells (Array.replicate 32 (bv 0)) 30)).alloc (.cells (Array.replicate 32 (bv 0)) 30)) W2 →
        Blk W2 w.heap.size 30 (Array.replicate 32 (bv 0)) ∧ Below w.heap.size w W2) := Lib.hid fun W2 h1 h2 h3 => ⟨hR0.below h3 (by omega), hb0.trans (h3.mono (by omega))⟩
    have hcl : ∀ W, Below w.heap.size w W → W.cell? ⟨g, 1, none⟩ = some (.slice (some ⟨G, 0, none⟩) (m + 1) c) := fun W hb => by
      have := (HB.out.below hb hgl).cell 1
      rw [HNN.out] at this
      exact this
    have hHR := Lib.hid (hrow _ ((Below.refl _ w).alloc (Nat.le_refl _) (.cells (Array.replicate 32 (bv 0)) 30)))
    have hsl := run_slice_toN (P := Tryd.prog) 22 30 Tryd.underlying22 32 (by kernel_rfl) (some ⟨G, 0, none⟩) (m + 1) c m (by have := HNN.out; omega)
    have HS0 := Lib.hid hS0
    have HCL := Lib.hid hcl
    have HRV := Lib.hid hRV
    have HRW := Lib.hid hrow
    clear hR0 hb0 hS0 hcl hRV hrow hlast h0
    gi_wp2_with (first
      | (refine wpListIn_load_at (fun _ => trivial) rfl 30 _ rfl ⟨G, m * 32, none⟩ rfl 32 (fun i => bv (last i)) 5 hHR.out Tryd.underlying30 (by kernel_rfl) ?_)
      | (refine wpListIn_store_arrW (fun _ => trivial) rfl 30 _ _ rfl (w.heap.size + 1) (arr 32 fun i => bv (last i)) rfl rfl 30 _ HS0.out (by rw [arr_size]; kernel_rfl) (by rw [arr_size]; rfl) (arr_all_bv _ _) ?_; intro W2 hS2 hz2 hb2 _ _; obtain ⟨hR2, hbw⟩ := HX.out W2 hS2 (by simpa using hz2) hb2; have cW2 := HCL.out W2 hbw)
      | (refine ⟨trivial, rfl, ?_⟩; gi_at_call 33; refine (backward_any _ _ _ _).mono ?_; rintro e w' ⟨rfl, rfl⟩))
    have hz2' : W2.heap.size = w.heap.size + 2 := by simpa using hz2
    have hS3 := hS2.alloc (.cells #[.slice (some ⟨G, 0, none⟩) m c] 22)
    have hR3 := hR2.alloc (.cells #[.slice (some ⟨G, 0, none⟩) m c] 22)
    have hb3 : Below w.heap.size w (W2.alloc (.cells #[.slice (some ⟨G, 0, none⟩) m c] 22)) := hbw.alloc hbw.size _
    have hX3 : (W2.alloc (.cells #[.slice (some ⟨G, 0, none⟩) m c] 22)).cell? ⟨W2.heap.size, 0, none⟩ = some (.slice (some ⟨G, 0, none⟩) m c) := (Blk.new W2 22 #[.slice (some ⟨G, 0, none⟩) m c]).cell 0
    have hz3 : (W2.alloc (.cells #[.slice (some ⟨G, 0, none⟩) m c] 22)).heap.size = w.heap.size + 3 := by simp; omega
    rw [hz2'] at hX3
    clear hz2' hz2 hS2 hR2 hbw hb2 HX HS0 hHR cW2
    generalize W2.alloc (.cells #[.slice (some ⟨G, 0, none⟩) m c] 22) = W3 at *
    have HZ := Lib.hid hz3
    have hrd : RdI W3 (fun b => b < W3.heap.size ∧ ¬ b = w.heap.size + 1) (.slice (some ⟨G, 0, none⟩) m c) ts.dropLast := by
      have h0 := own_cutN HO.out (show m ≤ m + 1 by omega)
      have hl := HNN.out
      rw [idCells_take ts m (by omega), show ts.take m = ts.dropLast from by rw [List.dropLast_eq_take, hl]; rfl] at h0
      have h1 := own_rd h0 (by omega)
      refine (h1.kept (W' := W3) fun a x ha h => (hb3.cell (p := a) ha.2.2).trans h).mono fun b hb => ?_
      have := hb.2.2
      exact ⟨by omega, by omega⟩
    refine wpIn_rangeFunc_C (gf := 46) (lb := #[.pointer (some ⟨w.heap.size + 1 + 1, 0, none⟩)]) rfl (enters_of Tryd.func46 (by kernel_rfl) rfl)
      (back_seq (fun b => b = w.heap.size + 1) (w.heap.size + 2) (some ⟨G, 0, none⟩) m c ts.dropLast (by omega) W3 (fun b hb => by subst hb; omega) hX3 (by omega) hrd) (fun _ => rfl)
      (fun pre W => Blk W (w.heap.size + 1) 30 (arr 32 fun i => bv (rootVal ts.dropLast last pre i)) ∧ Blk W w.heap.size 30 (Array.replicate 32 (bv 0)) ∧ Below w.heap.size w W)
      (fun _ _ _ => False)
      (fun s A B hs hb => ⟨hs.1.below hb (by omega), hs.2.1.below hb (by omega), hs.2.2.trans (hb.mono (by omega))⟩)
      (fun _ _ _ _ hs _ => hs)
      ⟨hS3, hR3, hb3⟩
      (fun x a' W => ∃ Bx, w.heap.size + 3 ≤ Bx ∧ Blk W Bx 30 (arr 32 fun i => bv (ts.dropLast.getD x dz i)) ∧ a' = { tmps := #[.pointer (some ⟨g, 0, none⟩), undef, .pointer (some ⟨w.heap.size, 0, none⟩), .int .i64 (m : Int), .pointer (some ⟨w.heap.size + 1, 0, none⟩), undef, .pointer (some ⟨Bx, 0, none⟩), .pointer (some ⟨g, 0, none⟩), .pointer (some ⟨g, 0, none⟩), .pointer (some ⟨g, 1, none⟩), .slice (some ⟨G, 0, none⟩) (m + 1) c, .int .i64 ((m : Int) + 1), .bool false, undef, .pointer (some ⟨g, 0, none⟩), .pointer (some ⟨g, 0, none⟩), .pointer (some ⟨g, 1, none⟩), .slice (some ⟨G, 0, none⟩) (m + 1) c, .int .i64 ((m : Int) + 1), .int .i64 (m : Int), .pointer (some ⟨g, 0, none⟩), .pointer (some ⟨g, 0, none⟩), .pointer (some ⟨g, 1, none⟩), .slice (some ⟨G, 0, none⟩) (m + 1) c, .int .i64 (m : Int), .pointer (some ⟨G, m * 32, none⟩), .agg (arr 32 fun i => bv (last i)), .pointer (some ⟨g, 0, none⟩), .pointer (some ⟨g, 0, none⟩), .pointer (some ⟨g, 1, none⟩), .slice (some ⟨G, 0, none⟩) (m + 1) c, .int .i64 (m : Int), .slice (some ⟨G, 0, none⟩) m c, .func (.func 46) #[] #[.pointer (some ⟨w.heap.size + 1 + 1, 0, none⟩)], .int .i64 (x : Int), .agg (arr 32 fun i => bv (ts.dropLast.getD x dz i)), undef, undef, undef, undef], defers := [] })
      (fun x a' W l o o' _ h1 h2 h3 => by
        obtain ⟨Bx, q1, q2, q3⟩ := h3
        exact ⟨Bx, q1, q2.putObj o' h1 h2, q3⟩) ?assign ?body ?done ?stop
    case assign =>
      intro l pre x W K hlt hpre hi hK
      have hB0 : Blk (W.alloc (.cells (Array.replicate 32 (bv 0)) 30)) W.heap.size 30 (Array.replicate 32 (bv 0)) := Blk.newAt _ _ rfl rfl
      obtain ⟨fx, hfx⟩ : ∃ fx, ts.dropLast.getD x dz = fx := ⟨_, rfl⟩
      unfold encK
      rw [hfx] at hK ⊢
      have HI := Lib.hid hi
      have HKK := Lib.hid hK
      have HFX := Lib.hid hfx
      clear hi hS3 hR3 hb3 hX3 hrd hK hfx
      simp only [List.zip_toArray, List.zip_cons_cons, List.zip_nil_right, List.foldl_toArray, List.foldl_cons, List.foldl_nil, List.setIfInBounds_toArray, List.set_cons_zero, List.set_cons_succ]
      gi_wp2_with (refine wpListIn_store_arrW (fun _ => trivial) rfl 30 _ _ rfl W.heap.size (arr 32 fun i => bv (fx i)) rfl rfl 30 _ hB0 (by rw [arr_size]; kernel_rfl) (by rw [arr_size]; rfl) (arr_all_bv _ _) ?_; intro W5 hS5 hz5 hb5 _ _)
      have hbel : Below W.heap.size W W5 := ((Below.refl _ W).alloc (Nat.le_refl _) _).trans hb5
      have hi := HI.out
      exact HKK.out _ _ (keepsFrom_of_below hbel) (.of_below hbel) ⟨hi.1.below hbel hi.1.lt, hi.2.1.below hbel hi.2.1.lt, hi.2.2.trans (hbel.mono hi.2.2.size)⟩ ⟨W.heap.size, by have := HZ.out; omega, hS5, rfl⟩
    case body =>
      rintro l pre x a' W hl hlt hpre ⟨hS, hR, hb⟩ ⟨Bx, hBx, bX, rfl⟩
      obtain ⟨fx, hfx⟩ : ∃ fx, ts.dropLast.getD x dz = fx := ⟨_, rfl⟩
      obtain ⟨rv, hrv⟩ : ∃ rv, rootVal ts.dropLast last pre = rv := ⟨_, rfl⟩
      have HSN := Lib.hid (rootVal_snoc ts.dropLast last pre x)
      rw [hfx] at bX HSN ⊢
      rw [hrv] at hS HSN
      have hT := HT.out.below hb
      have HND : Hid (Calls Tryd.prog 30 #[.agg (arr 32 fun i => bv (fx i)), .agg (arr 32 fun i => bv (rv i))] W fun e w' => e = .returned (.agg (arr 32 fun i => bv (node fx rv i))) ∧ Below W.heap.size W w') := Lib.hid (node_any fx rv W hT)
      have HB := Lib.hid hb
      have HRR := Lib.hid hR
      have HSZ : Hid (w.heap.size + 1 < W.heap.size) := Lib.hid hS.lt
      clear hb hR hS3 hR3 hb3 hX3 hrd hfx hrv hT
      gi_wp2_with (first
        | (refine wpListIn_load_arr (fun _ => trivial) rfl 30 _ rfl (w.heap.size + 1) rfl 30 _ _ hS Tryd.underlying30 rfl (by rw [arr_size]; kernel_rfl) ?_)
        | (refine wpListIn_load_arr (fun _ => trivial) rfl 30 _ rfl Bx rfl 30 _ _ bX Tryd.underlying30 rfl (by rw [arr_size]; kernel_rfl) ?_)
        | (refine ⟨trivial, rfl, ?_⟩; gi_at_call 30; refine (CallsIn.inRound l (callsIn_wide.2 HND.out)).mono ?_; rintro e W6 ⟨rfl, hb6⟩; have hS6 := hS.below hb6 HSZ.out)
        | (refine wpListIn_store_arrW (fun _ => trivial) rfl 30 _ _ rfl (w.heap.size + 1) (arr 32 fun i => bv (node fx rv i)) rfl rfl 30 _ hS6 (by rw [arr_size]; kernel_rfl) (by rw [arr_size, arr_size]) (arr_all_bv _ _) ?_; intro W7 hS7 hz7 hb7 hk7 hq7))
      refine ⟨keepsFrom_trans (keepsFrom_of_below hb6) (keepsFrom_row hS6 (by omega) hq7), (Keep.of_below hb6).trans hk7, ?_, ?_, ?_⟩
      · rw [HSN.out]; exact hS7
      · exact (HRR.out.below hb6 HRR.out.lt).below hb7 (by omega)
      · exact (HB.out.trans (hb6.mono HB.out.size)).trans (hb7.mono (by omega))
    case done =>
      rintro D W hD ⟨hS, hR, hb⟩ hK
      rw [HRV.out] at hS
      have HB := Lib.hid hb
      have HD := Lib.hid hK
      have HRR := Lib.hid hR
      clear hb hK hR hS3 hR3 hb3 hX3 hrd
      gi_wp2_with (first
        | (refine wpListIn_load_arr (fun _ => trivial) rfl 30 _ rfl (w.heap.size + 1) rfl 30 _ _ hS Tryd.underlying30 rfl (by rw [arr_size]; kernel_rfl) ?_)
        | (refine wpListIn_store_arrW (fun _ => trivial) rfl 30 _ _ rfl w.heap.size (arr 32 fun i => bv (R i)) rfl rfl 30 _ HRR.out (by rw [arr_size]; kernel_rfl) (by rw [arr_size]; rfl) (arr_all_bv _ _) ?_; intro W7 hR7 hz7 hb7 hk7 hq7))
      have hD7 : W7.heap[D]? = some (.deferred (some [])) := (hq7 D (by have := HZ.out; omega)).trans HD.out
      refine ⟨by simp, .inl ⟨_, _, rfl, run_takeDeferred hD7, ?_⟩⟩
      exact ⟨_, results_cell_row (p := 2) (ty := 30) rfl _ _ w.heap.size 30 _ (0, 0) _ rfl (hR7.putObj _ hD7 rfl) Tryd.underlying30 rfl (by rw [arr_size]; kernel_rfl), rfl,
        below_putObj (HB.out.trans hb7) _ (by have := HZ.out; omega)⟩
    case stop =>
      rintro D c pre W _ _ _ h _
      exact h.elim
end Go.Proofs.YtphknicdllcbmaaDoor
