/-
  Rows of IDs of the call's own; a tree's range as it lies in memory. No condition.
-/
import Derived.Test.YtkkanaefngggoaaDoorLeafT
import Derived.Test.YtkkanaefngggoaaDoorTreeMath
import Derived.Test.YtkkanaefngggoaaDoorTurn
import Derived.Deep.MidRow
import Derived.Great.BuildSlice
namespace Go.Proofs.YtkkanaefngggoaaDoor
open Go Go.RowKit Go.Shelf TreeM

/-- An ID's cells. -/
def idc (f : D) : List Value := (List.range 32).map fun i => bv (f i)
theorem idc_length (f : D) : (idc f).length = 32 := by simp [idc]
theorem idc_get (f : D) (i : Nat) (h : i < 32) : (idc f)[i]? = some (bv (f i)) := by simp [idc, h]
theorem idc_arr (f : D) : (arr 32 fun i => bv (f i)) = (idc f).toArray := by
  rw [arr_list]; rfl
theorem idc_one (f : D) : ∀ v ∈ idc f, v.oneCell' = true := fun v hv => by
  simp only [idc, List.mem_map] at hv
  obtain ⟨i, _, rfl⟩ := hv
  rfl
theorem idc_map (f : D) : (idl f).map bv = idc f := by simp [idl, idc]
theorem id_info : (Tryd.prog.info? 30).map (·.size) = some 32 := by kernel_rfl
theorem idc_info (f : D) : (Tryd.prog.info? 30).map (·.size) = some (idc f).length := by rw [idc_length]; exact id_info
/-- The cells of a row of IDs. -/
def idCells (ts : List D) : List Value := ts.flatMap idc
theorem idCells_length (ts : List D) : (idCells ts).length = ts.length * 32 := by
  induction ts with
  | nil => rfl
  | cons t ts ih => rw [idCells, List.flatMap_cons, List.length_append, idc_length, ← idCells, ih, List.length_cons]; omega
theorem idCells_append (a b : List D) : idCells (a ++ b) = idCells a ++ idCells b := by simp [idCells]
theorem idCells_one (f : D) : idCells [f] = idc f := by simp [idCells]
theorem idCells_take (ts : List D) (k : Nat) (h : k ≤ ts.length) : (idCells ts).take (k * 32) = idCells (ts.take k) := by
  conv => lhs; rw [← List.take_append_drop k ts]
  rw [idCells_append, List.take_append_of_le_length (by rw [idCells_length, List.length_take]; omega), List.take_of_length_le (by rw [idCells_length, List.length_take]; omega)]
theorem idCells_get (ts : List D) (k i : Nat) (hk : k < ts.length) (hi : i < 32) : (idCells ts)[32 * k + i]? = some (bv (ts[k] i)) := by
  conv => lhs; rw [← List.take_append_drop k ts]
  rw [idCells_append, List.getElem?_append_right (by rw [idCells_length, List.length_take]; omega), List.drop_eq_getElem_cons hk]
  rw [idCells_length, List.length_take, show 32 * k + i - min k ts.length * 32 = i from by omega]
  show (idCells (ts[k] :: ts.drop (k + 1)))[i]? = _
  rw [idCells, List.flatMap_cons, List.getElem?_append_left (by rw [idc_length]; exact hi), idc_get _ _ hi]
theorem own_id {w : World} {B G n cap : Nat} {ts : List D} (h : w.ownsRow B 30 32 (.slice (some ⟨G, 0, none⟩) n cap) n (idCells ts)) (hn : ts.length = n) (k : Nat) (hk : k < n) : w.rangeAt G (32 * k) (idc (ts[k]'(by omega))) := fun j v hv => by
  have hj : j < 32 := by
    have := (List.getElem?_eq_some_iff.1 hv).1
    rwa [idc_length] at this
  rw [idc_get _ _ hj] at hv
  rw [h.cellAt (32 * k + j) (by omega), idCells_get ts k j (by omega) hj]
  exact hv
theorem own_last {w : World} {B G m cap : Nat} {ts : List D} (h : w.ownsRow B 30 32 (.slice (some ⟨G, 0, none⟩) ts.length cap) ts.length (idCells ts)) (hm : ts.length = m + 1) (x : D) : w.rangeAt G (m * 32) (idc (ts.getLastD x)) := by
  have h1 := own_id h rfl m (by omega)
  have e : ts.getLastD x = ts[m]'(by omega) := by
    rw [List.getLastD_eq_getLast?, List.getLast?_eq_getElem?, show ts.length - 1 = m from by omega, List.getElem?_eq_getElem (by omega)]
    rfl
  rw [e, Nat.mul_comm]
  exact h1
theorem own_cutN {w : World} {B n k s : Nat} {e : TypeId} {A : Option Addr} {c : Nat} {xs : List Value} (h : w.ownsRow B e s (.slice A n c) n xs) (hk : k ≤ n) : w.ownsRow B e s (.slice A k c) k (xs.take (k * s)) := by
  have hks : k * s ≤ n * s := Nat.mul_le_mul_right _ hk
  refine ⟨by rw [List.length_take, h.1]; omega, ?_⟩
  rcases h.2 with ⟨hv, h0⟩ | ⟨g, cap, cur, hv, h1, h2, h3, h4, h5, h6⟩
  · injection hv with e1 e2 e3
    subst e1; subst e3
    exact .inl ⟨by rw [show k = 0 from by omega], by omega⟩
  · injection hv with e1 e2 e3
    subst e1; subst e3
    refine .inr ⟨g, c, cur, rfl, h1, h2, by omega, h4, h5, ?_⟩
    rw [← h6, List.take_take]
    congr 1
    omega
theorem own_addrN {W : World} {B n c s : Nat} {e : TypeId} {A : Option Addr} {xs : List Value} (h : W.ownsRow B e s (.slice A n c) n xs) (hn : 0 < n) : ∃ G, A = some ⟨G, 0, none⟩ := by
  rcases ownsRow_forms' h with ⟨_, h0⟩ | ⟨g, cap, hv⟩
  · omega
  · injection hv with e1 _ _
    exact ⟨g, e1⟩
theorem info_id : (Tryd.prog.info? 30).map (fun i => (i.zero, i.size, i.bytes)) = some (some (.agg (Array.replicate 32 (.int .u8 0))), 32, 32) := by kernel_rfl
/-- An append of one ID. -/
theorem app_id {B : Nat} {w : World} (hB : B ≤ w.heap.size) {v : Value} {n : Nat} {xs : List Value} (hown : w.ownsRow B 30 32 v n xs) (f : D) {g0 : Nat} (hg0 : Blk w g0 30 (arr 32 fun i => bv (f i))) (hn : n ≤ 100000000) :
    ∃ g cap w', (Builtin.append_ #[22, 22] 22 #[v, .slice (some ⟨g0, 0, none⟩) 1 1]).run Tryd.prog w = .ok (.slice (some ⟨g, 0, none⟩) (n + 1) cap) w' ∧
      w'.ownsRow B 30 32 (.slice (some ⟨g, 0, none⟩) (n + 1) cap) (n + 1) (xs ++ idc f) ∧ w.grownBy w' v.ownBlock ∧ (v.ownBlock = some g ∨ w.heap.size ≤ g) := by
  obtain ⟨i0, hi, hz0, hz1, hz2⟩ := info_parts info_id
  obtain ⟨v', w', hrun, hown', hgr, _, hv'⟩ := run_append_own_at (P := Tryd.prog) w B 22 22 30 i0 _ 32 32 Tryd.underlying22 hi hz0 hz1 hz2 (by simp [Value.cells]) (by omega) v n xs hown ⟨g0, 0, none⟩ 1 1 (idc f) (by simp [idc])
    (fun j u hu => by
      have hj : j < 32 := by
        have := (List.getElem?_eq_some_iff.1 hu).1
        rwa [idc_length] at this
      rw [add_zero_block, hg0.cell, arr_get, if_pos hj, ← hu, idc_get _ _ hj]) (idc_one f) (by unfold maxLen; omega) (by omega) hB
  rcases ownsRow_forms' hown' with ⟨_, h0⟩ | ⟨g, cap, rfl⟩
  · omega
  · refine ⟨g, cap, w', hrun, hown', hgr, ?_⟩
    rcases hv' with h | h
    · exact .inl h.symm
    · simp only [Value.ownBlock, Option.some.injEq] at h
      exact .inr (by omega)
section
variable {P : Program} {ops : Array Oper} {w : World}
/-- A load from within a row, among operations that only read. -/
theorem wpStill_load_mid {Q : Act → Prop} {a : Act} {o : Oper} {rest : List Oper} (hgd : o.guard = none) (ty : TypeId) (x : Operand) (ho : o.op = .load ty x) (b off : Nat) (hx : a.eval x = .pointer (some ⟨b, off, none⟩)) (cs : List Value) (d : TypeDesc) (hc : w.rangeAt b off cs)
    (hu : P.underlying ty = some d) (hd : d.isRow = true) (hi : (P.info? ty).map (·.size) = some cs.length) (h : wpStill P ops w Q rest (a.put o.dst (.agg cs.toArray))) : wpStill P ops w Q (o :: rest) a := by
  refine wpStill_step fun K hK => ?_
  rw [if_pos (by simp [Region.wanted, hgd])]
  unfold Oper.still
  have e : (execOp a.eval o).run P w = .ok (.value (.agg cs.toArray)) w := by
    simp only [execOp, ho, hx, Sem.run_bind, run_loadAt_mid w b off ty cs d hc hu hd hi, Result.andThen_ok, Sem.run_pure]
  rw [e, Oper.stillUpon_value]
  exact hK _ h
end
theorem run_slice_toN {P : Program} (t e : TypeId) (ht : P.underlying t = some (.slice e)) (sz : Nat) (hs : (P.info? e).map (·.size) = some sz) (A : Option Addr) (len cap h : Nat) (hh : h ≤ cap) (w : World) :
    (Instr.sliceAt t (.slice A len cap) none (some (.int .i64 (h : Int))) none).run P w = .ok (.slice A h cap) w := by
  have h1 : (h : Int) ≤ cap := by omega
  have h3 : A.map (·.add 0) = A := by cases A <;> simp [Addr.add]
  have hsz : (sizeOf e).run P w = .ok sz w := by
    cases hq : P.info? e with
    | none => simp [hq] at hs
    | some i => simp [sizeOf, typeInfo, hq]; simpa [hq] using hs
  simp [Instr.sliceAt, Instr.slice, run_underlying ht, Instr.sliceBounds, Instr.sliceBound, asIntOf, Sem.run_bind, hsz, h3]
  intro hx
  omega
/-- A range in block g: so many leaves, these whole trees; Z: the blocks that are its own. -/
def RangeAt (w : World) (Z : Nat → Prop) (g n : Nat) (ts : List D) : Prop :=
  ∃ v, Blk w g 71 #[.int .i64 (n : Int), v] ∧ w.ownsRow 0 30 32 v ts.length (idCells ts) ∧ Z g ∧ (∀ i, v.ownBlock = some i → Z i) ∧ (∀ i, Z i → i < w.heap.size) ∧ ts.length = pop n ∧ n ≤ 1099511627776
theorem RangeAt.turn {w w' : World} {Z S : Nat → Prop} {g n : Nat} {ts : List D} (h : RangeAt w Z g n ts) (ht : Turn S w w') (hs : ∀ i, Z i → ¬ S i) : RangeAt w' Z g n ts := by
  obtain ⟨v, h1, h2, h3, h4, h5, h6⟩ := h
  exact ⟨v, ht.blk h1 (hs g h3), ht.own h2 (fun i hi => hs i (h4 i hi)), h3, h4, fun i hi => Nat.lt_of_lt_of_le (h5 i hi) ht.size, h6⟩
theorem RangeAt.below {w w' : World} {Z : Nat → Prop} {g n : Nat} {ts : List D} (h : RangeAt w Z g n ts) (hb : Below w.heap.size w w') : RangeAt w' Z g n ts := by
  have h5 : ∀ i, Z i → i < w.heap.size := by obtain ⟨_, _, _, _, _, h5, _⟩ := h; exact h5
  exact h.turn (Turn.of_below hb) (fun i hi => by have := h5 i hi; omega)
/-- Its row lies elsewhere. -/
theorem range_ne {w : World} {g n : Nat} {v : Value} {cs : Array Value} {xs : List Value} (hb : Blk w g 71 cs) (ho : w.ownsRow 0 30 32 v n xs) : ∀ i, v.ownBlock = some i → i ≠ g := by
  rintro i hi rfl
  rcases ho.2 with ⟨rfl, _⟩ | ⟨i', cap, cur, rfl, _, h3, _⟩
  · cases hi
  · simp only [Value.ownBlock, Option.some.injEq] at hi
    subst hi
    unfold Blk at hb
    rw [hb] at h3
    have := (Option.some.inj h3)
    injection this with _ e2
    exact absurd e2 (by decide)
/-- What a call leaves of a range. -/
def RLeft (Z : Nat → Prop) (g n : Nat) (ts : List D) (w w' : World) : Prop := ∃ Z', RangeAt w' Z' g n ts ∧ Turn Z w w' ∧ ∀ i, Z' i → Z i ∨ w.heap.size ≤ i
theorem tables_old {w0 w : World} (hT : Tables w0) (hb : Below w0.heap.size w0 w) : Tables w := hT.below hb
end Go.Proofs.YtkkanaefngggoaaDoor
