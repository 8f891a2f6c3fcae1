/-
  Slices of bytes as lists, read and appended to; rows of the call's own: nothing here names a function of the program. No condition.
-/
import Derived.Test.YtkbdkeclbokhdaaDoorOps
import Derived.Test.YtkbdkeclbokhdaaDoorProg
import Derived.Lib.AppendZerosOnto
import Derived.Maps.AppendAt
import Derived.Shelf.Abstract
namespace Go.Proofs.YtkbdkeclbokhdaaDoor
open Go Go.RowKit Go.Shelf

/-- A slice of bytes that reads as bs, in blocks that 'ok' lets in. -/
def RdB (W : World) (ok : Nat → Prop) (v : Value) (bs : List UInt8) : Prop :=
  ∃ A c, v = .slice A bs.length c ∧ bs.length ≤ c ∧ bs.length ≤ 140737488351232 ∧ (0 < bs.length → ∃ ad : Addr, A = some ad ∧ ok ad.block ∧ ∀ j, j < bs.length → W.cell? (ad.add j) = some (bv (bs.getD j 0)))
/-- A slice of slices of bytes. -/
def RdP (W : World) (ok : Nat → Prop) (A : Option Addr) (ps : List (List UInt8)) : Prop :=
  ∀ k, k < ps.length → ∃ ad v, A = some ad ∧ ok ad.block ∧ W.cell? (ad.add k) = some v ∧ RdB W ok v (ps.getD k [])
theorem RdB.kept {W W' : World} {ok : Nat → Prop} {v : Value} {bs : List UInt8} (h : RdB W ok v bs) (hk : ∀ (a : Addr) (x : Value), ok a.block → W.cell? a = some x → W'.cell? a = some x) : RdB W' ok v bs := by
  obtain ⟨A, c, hv, h1, h2, h3⟩ := h
  refine ⟨A, c, hv, h1, h2, fun h0 => ?_⟩
  obtain ⟨ad, hA, hok, hc⟩ := h3 h0
  exact ⟨ad, hA, hok, fun j hj => hk _ _ (by rw [block_add]; exact hok) (hc j hj)⟩
theorem RdP.kept {W W' : World} {ok : Nat → Prop} {A : Option Addr} {ps : List (List UInt8)} (h : RdP W ok A ps) (hk : ∀ (a : Addr) (x : Value), ok a.block → W.cell? a = some x → W'.cell? a = some x) : RdP W' ok A ps := fun k hlt => by
  obtain ⟨ad, v, hA, hok, hc, hr⟩ := h k hlt
  exact ⟨ad, v, hA, hok, hk _ _ (by rw [block_add]; exact hok) hc, hr.kept hk⟩

theorem RdB.cut {W : World} {ok : Nat → Prop} {A : Option Addr} {r c k : Nat} {xs : List UInt8} (h : RdB W ok (.slice A r c) xs) (hk : k ≤ r) : RdB W ok (.slice (cutA A c k) (r - k) (c - k)) (xs.drop k) := by
  obtain ⟨A', c', hv, h1, h2, h3⟩ := h
  injection hv with e1 e2 e3
  subst e1; subst e2; subst e3
  refine ⟨cutA A c k, c - k, by rw [List.length_drop], by rw [List.length_drop]; omega, by rw [List.length_drop]; omega, fun h0 => ?_⟩
  rw [List.length_drop] at h0
  obtain ⟨ad, rfl, hok, hc⟩ := h3 (by omega)
  have hne : ¬ c = k := by omega
  refine ⟨ad.add k, by simp [cutA, hne], by rw [block_add]; exact hok, fun j hj => ?_⟩
  rw [List.length_drop] at hj
  rw [add_add, hc (k + j) (by omega), List.getD_eq_getElem?_getD, List.getD_eq_getElem?_getD, List.getElem?_drop]
theorem add_zero_block (g j : Nat) : (⟨g, 0, none⟩ : Addr).add j = ⟨g, j, none⟩ := by unfold Addr.add; split <;> simp_all
theorem rdB_cells {W : World} {ok : Nat → Prop} {g n c : Nat} {bs : List UInt8} (hcell : ∀ i, i < n → W.cell? ⟨g, i, none⟩ = some (bv (bs.getD i 0))) (hn : bs.length = n) (hc : n ≤ c) (hm : n ≤ 140737488351232) (hok : ok g) :
    RdB W ok (.slice (some ⟨g, 0, none⟩) n c) bs := by
  subst hn
  exact ⟨_, c, rfl, hc, hm, fun _ => ⟨_, rfl, hok, fun j hj => by rw [add_zero_block, hcell j hj]⟩⟩
theorem rdB_blk {W : World} {ok : Nat → Prop} {g t n c N : Nat} {f : Nat → Value} {bs : List UInt8} (h : Blk W g t (arr N f)) (hf : ∀ i, i < n → f i = bv (bs.getD i 0)) (hn : bs.length = n) (hN : n ≤ N) (hc : n ≤ c) (hm : n ≤ 140737488351232) (hok : ok g) :
    RdB W ok (.slice (some ⟨g, 0, none⟩) n c) bs := by
  subst hn
  refine ⟨_, c, rfl, hc, hm, fun _ => ⟨_, rfl, hok, fun j hj => ?_⟩⟩
  rw [add_zero_block, h.cell, arr_get, if_pos (by omega), hf j hj]
theorem RdB.mono {W : World} {ok ok' : Nat → Prop} {v : Value} {bs : List UInt8} (h : RdB W ok v bs) (hm : ∀ b, ok b → ok' b) : RdB W ok' v bs := by
  obtain ⟨A, c, h1, h2, h3, h4⟩ := h
  refine ⟨A, c, h1, h2, h3, fun h0 => ?_⟩
  obtain ⟨ad, q1, q2, q3⟩ := h4 h0
  exact ⟨ad, q1, hm _ q2, q3⟩
theorem info_u8 : (Tryd.prog.info? 5).map (fun i => (i.zero, i.size, i.bytes)) = some (some (.int .u8 0), 1, 1) := by kernel_rfl

/-- An append onto a row of the call's own, of a slice of bytes that reads as bs. -/
theorem run_append_rd {P : Program} (w : World) (base : Nat) (t ty e : TypeId) (i : TypeInfo) (z : Value) (ht : P.underlying t = some (.slice e)) (hi : P.info? e = some i) (hz : i.zero = some z)
    (hsize : i.size = 1) (hby : i.bytes = 1) (hzs : z.cells.size = 1) (v : Value) (n : Nat) (xs : List Value) (hown : w.ownsRow base e 1 v n xs)
    (ok : Nat → Prop) (A : Option Addr) (m c : Nat) (bs : List UInt8) (hr : RdB w ok (.slice A m c) bs) (h63 : n + m ≤ 140737488355328) (hbase : base ≤ w.heap.size) :
    ∃ v' w', (Builtin.append_ #[t, t] ty #[v, .slice A m c]).run P w = .ok v' w' ∧ w'.ownsRow base e 1 v' (n + m) (xs ++ bs.map bv) ∧ w.grownBy w' v.ownBlock ∧ (v'.ownBlock = v.ownBlock ∨ v'.ownBlock = some w.heap.size) := by
  obtain ⟨A', c', hv, h1, h2, h3⟩ := hr
  injection hv with e1 e2 e3
  subst e1; subst e2; subst e3
  rcases A with _ | ad
  · have hm : bs.length = 0 := by
      rcases Nat.eq_zero_or_pos bs.length with h0 | h0
      · exact h0
      · obtain ⟨ad, h, _⟩ := h3 h0
        cases h
    have hn : bs = [] := List.eq_nil_of_length_eq_zero hm
    subst hn
    refine ⟨v, w, ?_, by simpa using hown, World.grownBy.refl w _, .inl rfl⟩
    rcases hown.2 with ⟨rfl, rfl⟩ | ⟨g, cap, cur, rfl, _, _, hnc, _⟩
    · simp [Builtin.append_, run_underlying ht, sizeOf, typeInfo, hi, Builtin.lenOf, Builtin.firstCells]
    · simp [Builtin.append_, run_underlying ht, sizeOf, typeInfo, hi, Builtin.lenOf, Builtin.firstCells, hnc, storeCells]
  · obtain ⟨v', w', hrun, q2, q3, _, q5⟩ := run_append_own_at (P := P) w base t ty e i z 1 1 ht hi hz hsize hby hzs (by omega) v n xs hown ad bs.length c (bs.map bv) (by simp)
      (fun j x hx => by
        have hj : j < bs.length := by
          by_cases hj : j < bs.length
          · exact hj
          · rw [List.getElem?_eq_none (by simpa using hj)] at hx; cases hx
        obtain ⟨ad', hA, _, hc⟩ := h3 (by omega)
        injection hA with hA
        subst hA
        rw [List.getElem?_map, List.getElem?_eq_getElem hj] at hx
        cases hx
        rw [hc j hj, List.getD_eq_getElem?_getD, List.getElem?_eq_getElem hj]
        rfl) (fun x hx => by
        simp only [List.mem_map] at hx
        obtain ⟨b, _, rfl⟩ := hx
        rfl) (by unfold maxLen; omega) (by omega) hbase
    exact ⟨v', w', hrun, q2, q3, q5⟩

theorem ownsRow_forms' {w : World} {base size n : Nat} {e : TypeId} {v : Value} {xs : List Value} (h : w.ownsRow base e size v n xs) : (v = .slice none 0 0 ∧ n = 0) ∨ ∃ g cap, v = .slice (some ⟨g, 0, none⟩) n cap := by
  rcases h.2 with h0 | ⟨g, cap, _, hv, _⟩
  · exact Or.inl h0
  · exact Or.inr ⟨g, cap, hv⟩
theorem rdB_own {w : World} {base n : Nat} {e : TypeId} {v : Value} {bs : List UInt8} (h : w.ownsRow base e 1 v n (bs.map bv)) (hn : bs.length = n) (hm : n ≤ 140737488351232) : RdB w (fun b => base ≤ b ∧ b < w.heap.size) v bs := by
  subst hn
  rcases h.2 with ⟨rfl, h0⟩ | ⟨g, cap, cur, rfl, hb, hg, hcap, _⟩
  · exact ⟨none, 0, by rw [h0], by omega, hm, fun h => by omega⟩
  · have hlt : g < w.heap.size := by
      rcases Nat.lt_or_ge g w.heap.size with h' | h'
      · exact h'
      · rw [Array.getElem?_eq_none h'] at hg; cases hg
    refine ⟨_, cap, rfl, hcap, hm, fun _ => ⟨_, rfl, ⟨hb, hlt⟩, fun j hj => ?_⟩⟩
    refine h.cells (g := g) rfl j _ ?_
    rw [List.getElem?_map, List.getElem?_eq_getElem hj, List.getD_eq_getElem?_getD, List.getElem?_eq_getElem hj]
    rfl

theorem ownsRow_kept {B : Nat} {e : TypeId} {k : Nat} {v : Value} {n : Nat} {xs : List Value} {w w' : World} (h : w.ownsRow B e k v n xs) (hb : Below w.heap.size w w') : w'.ownsRow B e k v n xs := by
  refine ⟨h.1, ?_⟩
  rcases h.2 with h0 | ⟨g, cap, cur, h1, h2, h3, h4⟩
  · exact .inl h0
  · refine .inr ⟨g, cap, cur, h1, h2, (hb.block g ?_).trans h3, h4⟩
    rcases Nat.lt_or_ge g w.heap.size with h' | h'
    · exact h'
    · rw [Array.getElem?_eq_none h'] at h3; cases h3
theorem own_one (w : World) (B : Nat) (hB : B ≤ w.heap.size) (x : UInt8) : (w.alloc (.cells #[bv x] 5)).ownsRow B 5 1 (.slice (some ⟨w.heap.size, 0, none⟩) 1 1) 1 ([x].map bv) :=
  ⟨rfl, .inr ⟨w.heap.size, 1, #[bv x], rfl, hB, heap_alloc_new w _, Nat.le_refl _, by unfold maxLen; omega, rfl, rfl⟩⟩
theorem app_step {B : Nat} {W w : World} (hb : Below B W w) (hB : B ≤ w.heap.size) {v : Value} {n : Nat} {bs : List UInt8} (hown : w.ownsRow B 5 1 v n (bs.map bv))
    {ok : Nat → Prop} {A : Option Addr} {m c : Nat} {cs : List UInt8} (hr : RdB w ok (.slice A m c) cs) (hn : 0 < n + m) (h63 : n + m ≤ 140737488351232) :
    ∃ g cap w', (Builtin.append_ #[42, 42] 42 #[v, .slice A m c]).run Tryd.prog w = .ok (.slice (some ⟨g, 0, none⟩) (n + m) cap) w' ∧
      w'.ownsRow B 5 1 (.slice (some ⟨g, 0, none⟩) (n + m) cap) (n + m) ((bs ++ cs).map bv) ∧ Below B W w' ∧ B ≤ w'.heap.size := by
  obtain ⟨i0, hi, hz0, hz1, hz2⟩ := info_parts info_u8
  obtain ⟨v', w', hrun, hown', hgr, _⟩ := run_append_rd (P := Tryd.prog) w B 42 42 5 i0 (.int .u8 0) Tryd.underlying42 hi hz0 hz1 hz2 rfl v n _ hown ok A m c cs hr (by omega) hB
  have hb' := hb.grown hgr hB (fun k hk => (hown.lt k hk).1)
  have hs := hgr.size
  rcases ownsRow_forms' hown' with ⟨_, h0⟩ | ⟨g, cap, rfl⟩
  · omega
  · exact ⟨g, cap, w', hrun, by rw [List.map_append]; exact hown', hb', by omega⟩
section
variable {P : Program}
theorem oper_append {o : Oper} {a : Act} {w : World} {K : Act → World → Prop} {Q : Exit → Act → World → Prop} (s x : Operand) (t t' : TypeId) (ho : o.op = .call { callee := .builtin .append, args := #[s, x], argTypes := #[t, t'] })
    (vs vx : Value) (hs : a.eval s = vs) (hx : a.eval x = vx) (v : Value) (w' : World) (hrun : (Builtin.append_ #[t, t'] o.type #[vs, vx]).run P w = .ok v w') (h : K (a.put o.dst v) w') : Oper.wp P o a w K Q := by
  unfold Oper.wp
  simp [execOp, ho, resolve, invoke, builtin, hs, hx, hrun, Result.andThen, Oper.upon]
  exact h
theorem wpList_append_run {ops : Array Oper} {rest : List Oper} {o : Oper} {a : Act} {w : World} {Q : Exit → Act → World → Prop} (hgd : o.guard = none) (s x : Operand) (t t' : TypeId) (ho : o.op = .call { callee := .builtin .append, args := #[s, x], argTypes := #[t, t'] })
    (vs vx : Value) (hs : a.eval s = vs) (hx : a.eval x = vx) (v : Value) (w' : World) (hrun : (Builtin.append_ #[t, t'] o.type #[vs, vx]).run P w = .ok v w') (h : wpList P ops Q rest (a.put o.dst v) w') : wpList P ops Q (o :: rest) a w :=
  wpList_plain hgd fun _ hK => oper_append s x t t' ho vs vx hs hx v w' hrun (hK _ _ h)
end
end Go.Proofs.YtkbdkeclbokhdaaDoor
