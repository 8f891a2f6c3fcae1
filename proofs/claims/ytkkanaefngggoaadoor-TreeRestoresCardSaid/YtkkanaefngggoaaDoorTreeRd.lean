/-
  Slices of IDs, read; cut; cloned; a tree's range made of leaves. No condition.
-/
import Derived.Test.YtkkanaefngggoaaDoorTreePut
import Derived.Lib.LazyBuf
namespace Go.Proofs.YtkkanaefngggoaaDoor
open Go Go.RowKit Go.Shelf TreeM

section
variable {P : Program} {ops : Array Oper} {rest : List Oper} {o : Oper} {a : Act} {w : World} {Q : Exit → Act → World → Prop}
theorem run_loadAt_cells {P : Program} (ty : TypeId) (ad : Addr) (N : Nat) (f : Nat → Value) (e : TypeId) (w : World) (hg : ∀ i, i < N → w.cell? (ad.add i) = some (f i))
    (hu : P.underlying ty = some (.array N e)) (hi : (P.info? ty).map (·.size) = some N) : (Instr.loadAt ty (.pointer (some ad))).run P w = .ok (.agg (arr N f)) w := by
  have hl := run_loadCells_list (P := P) w ad (arr N f).toList (fun j v hv => by
    rw [Array.getElem?_toList, arr_get] at hv
    by_cases hj : j < N
    · rw [if_pos hj] at hv
      cases hv
      exact hg j hj
    · rw [if_neg hj] at hv; cases hv)
  simp only [Array.length_toList, arr_size, Array.toArray_toList] at hl
  cases hq : P.info? ty with
  | none => simp [hq] at hi
  | some i =>
    have hs : i.size = N := by simpa [hq] using hi
    have hagg : (isAgg ty).run P w = .ok true w := by
      unfold isAgg
      rw [Sem.run_bind, run_underlying hu w]
      rfl
    simp [Instr.loadAt, Instr.sureAddr, loadVar, Sem.run_bind, hagg, sizeOf, typeInfo, hq, hs, hl]
theorem wpList_load_at (hgd : o.guard = none) (ty : TypeId) (x : Operand) (ho : o.op = .load ty x) (ad : Addr) (hx : a.eval x = .pointer (some ad)) (N : Nat) (f : Nat → Value) (e : TypeId)
    (hg : ∀ i, i < N → w.cell? (ad.add i) = some (f i)) (hu : P.underlying ty = some (.array N e)) (hi : (P.info? ty).map (·.size) = some N)
    (h : wpList P ops Q rest (a.put o.dst (.agg (arr N f))) w) : wpList P ops Q (o :: rest) a w := by
  refine wpList_plain hgd fun K hK => ?_
  unfold Oper.wp
  have hl := run_loadAt_cells (P := P) ty ad N f e w hg hu hi
  simp [execOp, ho, hx, hl, Result.andThen, Oper.upon]
  exact hK _ _ h
theorem wpListIn_load_at {F : Fence} {n : Nat} (hF : ∀ f, F.fn f) (hgd : o.guard = none) (ty : TypeId) (x : Operand) (ho : o.op = .load ty x) (ad : Addr) (hx : a.eval x = .pointer (some ad)) (N : Nat) (f : Nat → Value) (e : TypeId)
    (hg : ∀ i, i < N → w.cell? (ad.add i) = some (f i)) (hu : P.underlying ty = some (.array N e)) (hi : (P.info? ty).map (·.size) = some N)
    (h : wpListIn F n P ops Q rest (a.put o.dst (.agg (arr N f))) w) : wpListIn F n P ops Q (o :: rest) a w := by
  refine wpListIn_val hF hgd (by rw [ho]; intro c hc; cases hc) _ w ?_ h
  have hl := run_loadAt_cells (P := P) ty ad N f e w hg hu hi
  simp [execOp, ho, hx, hl, Result.andThen]
end

def dz : D := fun _ => 0
/-- A slice of IDs that reads as l, in blocks that 'ok' lets in. -/
def RdI (W : World) (ok : Nat → Prop) (v : Value) (l : List D) : Prop :=
  ∃ A c, v = .slice A l.length c ∧ l.length ≤ c ∧ l.length ≤ 4398046511104 ∧ (0 < l.length → ∃ ad : Addr, A = some ad ∧ ok ad.block ∧ ∀ k, k < l.length → ∀ i, i < 32 → W.cell? (ad.add (32 * k + i)) = some (bv (l.getD k dz i)))
theorem RdI.kept {W W' : World} {ok : Nat → Prop} {v : Value} {l : List D} (h : RdI W ok v l) (hk : ∀ (a : Addr) (x : Value), ok a.block → W.cell? a = some x → W'.cell? a = some x) : RdI W' ok v l := by
  obtain ⟨A, c, hv, h1, h2, h3⟩ := h
  refine ⟨A, c, hv, h1, h2, fun h0 => ?_⟩
  obtain ⟨ad, hA, hok, hc⟩ := h3 h0
  exact ⟨ad, hA, hok, fun k hk' i hi => hk _ _ (by rw [block_add]; exact hok) (hc k hk' i hi)⟩
theorem RdI.mono {W : World} {ok ok' : Nat → Prop} {v : Value} {l : List D} (h : RdI W ok v l) (hm : ∀ b, ok b → ok' b) : RdI W ok' v l := by
  obtain ⟨A, c, h1, h2, h3, h4⟩ := h
  refine ⟨A, c, h1, h2, h3, fun h0 => ?_⟩
  obtain ⟨ad, q1, q2, q3⟩ := h4 h0
  exact ⟨ad, q1, hm _ q2, q3⟩
theorem RdI.turn {W W' : World} {S ok : Nat → Prop} {v : Value} {l : List D} (h : RdI W ok v l) (ht : Turn S W W') (hs : ∀ b, ok b → ¬ S b) : RdI W' ok v l := h.kept fun _ _ ha hx => ht.cell hx (hs _ ha)
theorem RdI.below {W W' : World} {v : Value} {l : List D} (h : RdI W (fun b => b < W.heap.size) v l) (hb : Below W.heap.size W W') : RdI W' (fun b => b < W'.heap.size) v l :=
  (h.kept fun _ _ ha hx => (hb.cell ha).trans hx).mono fun _ hb' => Nat.lt_of_lt_of_le hb' hb.size
theorem RdI.old {W0 W W' : World} {v : Value} {l : List D} (h : RdI W (fun b => b < W0.heap.size) v l) (hb : Below W0.heap.size W W') : RdI W' (fun b => b < W0.heap.size) v l := h.kept fun _ _ ha hx => (hb.cell ha).trans hx
/-- A cell that is read lies in a block. -/
theorem RdI.here {W : World} {v : Value} {l : List D} (h : RdI W (fun _ => True) v l) : RdI W (fun b => b < W.heap.size) v l := by
  obtain ⟨A, c, h1, h2, h3, h4⟩ := h
  refine ⟨A, c, h1, h2, h3, fun h0 => ?_⟩
  obtain ⟨ad, q1, q2, q3⟩ := h4 h0
  refine ⟨ad, q1, ?_, q3⟩
  have := block_lt_of_cell (q3 0 h0 0 (by omega))
  rwa [block_add] at this
theorem RdI.len {W : World} {ok : Nat → Prop} {A : Option Addr} {n c : Nat} {l : List D} (h : RdI W ok (.slice A n c) l) : n = l.length := by
  obtain ⟨A', c', hv, _⟩ := h
  injection hv
theorem RdI.cap {W : World} {ok : Nat → Prop} {A : Option Addr} {n c : Nat} {l : List D} (h : RdI W ok (.slice A n c) l) : l.length ≤ c := by
  obtain ⟨A', c', hv, h1, _⟩ := h
  injection hv with _ _ e
  subst e
  exact h1
theorem RdI.max {W : World} {ok : Nat → Prop} {v : Value} {l : List D} (h : RdI W ok v l) : l.length ≤ 4398046511104 := by
  obtain ⟨A', c', hv, h1, h2, _⟩ := h
  exact h2
theorem RdI.take {W : World} {ok : Nat → Prop} {A : Option Addr} {n c : Nat} {l : List D} (h : RdI W ok (.slice A n c) l) {k : Nat} (hk : k ≤ n) : RdI W ok (.slice A k c) (l.take k) := by
  obtain ⟨A', c', hv, h1, h2, h3⟩ := h
  injection hv with e1 e2 e3
  subst e1; subst e2; subst e3
  have hl : (l.take k).length = k := by rw [List.length_take]; omega
  refine ⟨A, c, by rw [hl], by omega, by omega, fun h0 => ?_⟩
  obtain ⟨ad, hA, hok, hc⟩ := h3 (by omega)
  refine ⟨ad, hA, hok, fun j hj i hi => ?_⟩
  rw [hc j (by omega) i hi]
  congr 2
  rw [List.getD_eq_getElem?_getD, List.getD_eq_getElem?_getD, List.getElem?_take, if_pos (by omega)]
/-- The address of a slice that begins later. -/
def cutI (A : Option Addr) (cap k : Nat) : Option Addr := if cap = k then A else A.map (·.add (k * 32))
theorem RdI.drop {W : World} {ok : Nat → Prop} {A : Option Addr} {n c : Nat} {l : List D} (h : RdI W ok (.slice A n c) l) {k : Nat} (hk : k ≤ n) : RdI W ok (.slice (cutI A c k) (n - k) (c - k)) (l.drop k) := by
  obtain ⟨A', c', hv, h1, h2, h3⟩ := h
  injection hv with e1 e2 e3
  subst e1; subst e2; subst e3
  have hl : (l.drop k).length = l.length - k := List.length_drop
  refine ⟨cutI A c k, c - k, by rw [hl], by omega, by omega, fun h0 => ?_⟩
  obtain ⟨ad, rfl, hok, hc⟩ := h3 (by omega)
  have hne : ¬ c = k := by omega
  refine ⟨ad.add (k * 32), by simp [cutI, hne], by rw [block_add]; exact hok, fun j hj i hi => ?_⟩
  rw [add_add, show k * 32 + (32 * j + i) = 32 * (k + j) + i from by omega, hc (k + j) (by omega) i hi]
  congr 2
  rw [List.getD_eq_getElem?_getD, List.getD_eq_getElem?_getD, List.getElem?_drop]
theorem run_slice_fromI {P : Program} (t e : TypeId) (ht : P.underlying t = some (.slice e)) (hs : (P.info? e).map (·.size) = some 32) (A : Option Addr) (len cap l : Nat) (hl : l ≤ len) (w : World) :
    (Instr.sliceAt t (.slice A len cap) (some (.int .i64 (l : Int))) none none).run P w = .ok (.slice (cutI A cap l) (len - l) (cap - l)) w := by
  have h1 : (l : Int) ≤ len := by omega
  have hsz : (sizeOf e).run P w = .ok 32 w := by
    cases hq : P.info? e with
    | none => simp [hq] at hs
    | some i => simp [sizeOf, typeInfo, hq]; simpa [hq] using hs
  simp [Instr.sliceAt, Instr.slice, run_underlying ht, Instr.sliceBounds, Instr.sliceBound, asIntOf, Sem.run_bind, hsz, cutI]
  intro hx
  omega
theorem RdI.at_ {W : World} {ok : Nat → Prop} {A : Option Addr} {n c : Nat} {l : List D} (h : RdI W ok (.slice A n c) l) {k : Nat} (hk : k < n) : ∃ ad : Addr, A = some ad ∧ ok ad.block ∧ ∀ i, i < 32 → W.cell? ((ad.add (32 * k)).add i) = some (bv (l.getD k dz i)) := by
  obtain ⟨A', c', hv, h1, h2, h3⟩ := h
  injection hv with e1 e2 e3
  subst e1; subst e2; subst e3
  obtain ⟨ad, hA, hok, hc⟩ := h3 (by omega)
  exact ⟨ad, hA, hok, fun i hi => by rw [add_add]; exact hc k hk i hi⟩
theorem RdI.nil (W : World) (ok : Nat → Prop) (A : Option Addr) (c : Nat) : RdI W ok (.slice A 0 c) [] := ⟨A, c, rfl, Nat.zero_le _, by simp, fun h => by simp at h⟩
theorem idCells_at (l : List D) (k i : Nat) (hk : k < l.length) (hi : i < 32) : (idCells l)[32 * k + i]? = some (bv (l.getD k dz i)) := by
  rw [idCells_get l k i hk hi, List.getD_eq_getElem?_getD, List.getElem?_eq_getElem hk]
  rfl
/-- A row of the call's own, read. -/
theorem own_rd {w : World} {B n : Nat} {v : Value} {l : List D} (h : w.ownsRow B 30 32 v n (idCells l)) (hm : n ≤ 4398046511104) : RdI w (fun b => v.ownBlock = some b ∧ B ≤ b ∧ b < w.heap.size) v l := by
  have hn : l.length = n := by
    have := h.1
    rw [idCells_length] at this
    omega
  subst hn
  obtain ⟨A, c, rfl, hc⟩ := own_len h
  refine ⟨A, c, rfl, hc, hm, fun h0 => ?_⟩
  obtain ⟨G, rfl⟩ := own_addrN h h0
  refine ⟨⟨G, 0, none⟩, rfl, ⟨rfl, h.lt G rfl⟩, fun k hk i hi => ?_⟩
  rw [add_zero_block, h.cellAt (32 * k + i) (by omega), idCells_at l k i hk hi]
/-- The cells that a slice of IDs reads as. -/
theorem RdI.cells {W : World} {ok : Nat → Prop} {A : Addr} {n c : Nat} {l : List D} (h : RdI W ok (.slice (some A) n c) l) : ∀ j u, (idCells l)[j]? = some u → W.cell? (A.add j) = some u := by
  intro j u hu
  have hj : j < l.length * 32 := by
    have := (List.getElem?_eq_some_iff.1 hu).1
    rwa [idCells_length] at this
  have hn := h.len
  obtain ⟨ad, e, _, hc⟩ := h.at_ (k := j / 32) (by omega)
  injection e with e
  subst e
  have e1 : j = 32 * (j / 32) + j % 32 := (Nat.div_add_mod j 32).symm
  have := hc (j % 32) (by omega)
  rw [add_add, ← e1] at this
  rw [this, ← hu]
  conv => rhs; rw [e1]
  exact (idCells_at l _ _ (by omega) (by omega)).symm
theorem idCells_one' (l : List D) : ∀ u ∈ idCells l, u.oneCell' = true := fun u hu => by
  simp only [idCells, List.mem_flatMap] at hu
  obtain ⟨f, _, hu⟩ := hu
  exact idc_one f u hu
/-- An append of a slice of IDs onto a row of the call's own. -/
theorem app_ids {B : Nat} {w : World} (hB : B ≤ w.heap.size) {v : Value} {n : Nat} {xs : List Value} (hown : w.ownsRow B 30 32 v n xs) {ok : Nat → Prop} {A : Addr} {m c : Nat} {l : List D} (hr : RdI w ok (.slice (some A) m c) l) (hn : n + m ≤ 4398046511104) :
    ∃ v' w', (Builtin.append_ #[22, 22] 22 #[v, .slice (some A) m c]).run Tryd.prog w = .ok v' w' ∧
      w'.ownsRow B 30 32 v' (n + m) (xs ++ idCells l) ∧ w.grownBy w' v.ownBlock ∧ (v'.ownBlock = v.ownBlock ∨ v'.ownBlock = some w.heap.size) := by
  obtain ⟨i0, hi, hz0, hz1, hz2⟩ := info_parts info_id
  obtain ⟨v', w', hrun, hown', hgr, _, hv'⟩ := run_append_own_at (P := Tryd.prog) w B 22 22 30 i0 _ 32 32 Tryd.underlying22 hi hz0 hz1 hz2 (by simp [Value.cells]) (by omega) v n xs hown A m c (idCells l) (by rw [idCells_length, ← hr.len])
    hr.cells (idCells_one' l) (by unfold maxLen; omega) (by omega) hB
  exact ⟨v', w', hrun, hown', hgr, hv'⟩
set_option maxRecDepth 100000 in
set_option maxHeartbeats 1000000 in
/-- slices.Clone of a slice of IDs. -/
theorem clone_any (v : Value) (l : List D) (w : World) (hr : RdI w (fun b => b < w.heap.size) v l) :
    Calls Tryd.prog 49 #[v] w fun e w' => ∃ v', e = .returned v' ∧ w'.ownsRow w.heap.size 30 32 v' l.length (idCells l) ∧ Below w.heap.size w w' := by
  obtain ⟨A, c, rfl, _⟩ := id hr
  cases A with
  | none =>
    have h0 : l.length = 0 := by
      rcases Nat.eq_zero_or_pos l.length with h | h
      · exact h
      · obtain ⟨ad, e, _⟩ := hr.at_ (k := 0) h
        cases e
    have hl : l = [] := List.length_eq_zero_iff.1 h0
    subst hl
    clear hr h0
    have hnil : ∀ W, (binOp .eql 22 (.slice none 0 c) (.slice none 0 0)).run Tryd.prog W = .ok (.bool true) W := fun W => run_eql_slice_nil W _ _ none 0 c Tryd.underlying22
    show Calls Tryd.prog _ #[.slice none 0 c] _ _
    go_enter Tryd.func49, Tryd.ntmps49
    go_wp2
    go_ret
    exact ⟨_, rfl, World.ownsRow_nil _ _ _ _, Below.refl _ _⟩
  | some A =>
    have hmax := hr.max
    have h1 : Below w.heap.size w (w.alloc (.cells #[] 30)) := (Below.refl _ _).alloc (Nat.le_refl _) _
    have ho : (w.alloc (.cells #[] 30)).ownsRow w.heap.size 30 32 (.slice (some ⟨w.heap.size, 0, none⟩) 0 0) 0 [] := ⟨rfl, .inr ⟨w.heap.size, 0, #[], rfl, Nat.le_refl _, heap_alloc_new w _, Nat.le_refl _, by unfold maxLen; omega, rfl, rfl⟩⟩
    obtain ⟨v', w', hrun, hown, hgr, _⟩ := app_ids (B := w.heap.size) h1.size ho (hr.below h1) (by omega)
    rw [Nat.zero_add, List.nil_append] at hown
    have hb : Below w.heap.size w w' := h1.trans ⟨hgr.os, hgr.tape, hgr.output, hgr.size, fun k hk => hgr.block k (Nat.lt_of_lt_of_le hk h1.size) (fun e => by simp only [Value.ownBlock, Option.some.injEq] at e; omega)⟩
    have R1 := Lib.hid hrun
    have HE := Lib.hid (And.intro hown hb)
    clear hrun hown hgr hb ho h1 hr
    have hnil : ∀ W, (binOp .eql 22 (.slice (some A) l.length c) (.slice none 0 0)).run Tryd.prog W = .ok (.bool false) W := fun W => run_eql_slice_nil W _ _ (some A) l.length c Tryd.underlying22
    go_enter Tryd.func49, Tryd.ntmps49
    go_wp2_with (first
      | (at_builtin; refine wpList_append_run rfl (.tmp 5) (.tmp 6) _ _ rfl _ _ rfl rfl _ _ R1.out ?_))
    go_ret
    exact ⟨_, rfl, HE.out.1, HE.out.2⟩
end Go.Proofs.YtkkanaefngggoaaDoor
