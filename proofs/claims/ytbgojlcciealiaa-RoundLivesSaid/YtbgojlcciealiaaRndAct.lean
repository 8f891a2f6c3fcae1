/-
  Acts in memory: an act's cells, rows of acts, that grow (after votes). No condition.
-/
import Derived.Test.YtbgojlcciealiaaRndIds
namespace Go.Proofs.Ytbgojlcciealiaa
open Go Go.RowKit Go.Maps

structure ActS where
  kind : Int
  round : Int
  num : Int
  valid : Int
  id : List UInt8
def actC (v : ActS) : List Value := .int .i64 v.kind :: .int .i64 v.round :: .int .i64 v.num :: .int .i64 v.valid :: v.id.map Extern.Stop.cell
def actA (v : ActS) : Array Value := (actC v).toArray
structure ActOk (v : ActS) : Prop where
  id : IdOk v.id
  kind : wfi v.kind
  round : wfi v.round
  num : wfi v.num
  valid : wfi v.valid
theorem actA_size {v : ActS} (h : ActOk v) : (actA v).size = 36 := by
  have := h.id
  unfold IdOk at this
  simp [actA, actC, this]
theorem actC_length {v : ActS} (h : ActOk v) : (actC v).length = 36 := by
  have := h.id
  unfold IdOk at this
  simp [actC, this]
theorem actA_one (v : ActS) : (actA v).all (·.oneCell') = true := by
  unfold actA actC
  rw [Array.all_eq_true_iff_forall_mem]
  intro x hx
  simp only [List.mem_toArray, List.mem_cons, List.mem_map] at hx
  rcases hx with rfl | rfl | rfl | rfl | ⟨b, _, rfl⟩ <;> rfl
theorem act_info : (Try.prog.info? 71).map (·.size) = some 36 := by kernel_rfl
/-- A slice of acts that reads as l, its cells in blocks below B. -/
def RdA (W : World) (B : Nat) (v : Value) (l : List ActS) : Prop :=
  (∀ x ∈ l, ActOk x) ∧ ∃ A c, v = .slice A l.length c ∧ l.length ≤ c ∧ l.length ≤ 2199023255552 ∧ (0 < l.length → ∃ ad : Addr, A = some ad ∧ ad.block < B ∧ ∀ k x, l[k]? = some x → ∀ i, i < 36 → W.cell? (ad.add (36 * k + i)) = (actC x)[i]?)
theorem run_load_act (w : World) (ad : Addr) (v : ActS) (hv : ActOk v) (h : ∀ i, i < 36 → w.cell? (ad.add i) = (actC v)[i]?) : (Instr.loadAt 71 (.pointer (some ad))).run Try.prog w = .ok (.agg (actA v)) w := by
  have hl := run_loadCells_list (P := Try.prog) w ad (actC v) (fun j x hx => by
    have hj : j < 36 := by
      have := (List.getElem?_eq_some_iff.1 hx).1
      rw [actC_length hv] at this
      exact this
    rw [h j hj, hx])
  rw [actC_length hv] at hl
  cases hq : Try.prog.info? 71 with
  | none => have := act_info; simp [hq] at this
  | some i =>
    have hs : i.size = 36 := by have := act_info; simpa [hq] using this
    have hagg : (isAgg 71).run Try.prog w = .ok true w := by
      unfold isAgg
      rw [Sem.run_bind, run_underlying Try.underlying71 w]
      rfl
    simp [Instr.loadAt, Instr.sureAddr, loadVar, Sem.run_bind, hagg, sizeOf, typeInfo, hq, hs, hl, actA]
theorem RdA.here {W : World} {B : Nat} {v : Value} {l : List ActS} (h : RdA W B v l) {k : Nat} {x : ActS} (hk : l[k]? = some x) : ∃ ad c, v = .slice (some ad) l.length c ∧ ActOk x ∧ ad.block < B ∧ ∀ W', Below B W W' → (Instr.loadAt 71 (.pointer (some (ad.add (k * 36))))).run Try.prog W' = .ok (.agg (actA x)) W' := by
  have hlt := (List.getElem?_eq_some_iff.1 hk).1
  have h' := h
  obtain ⟨h0, A, c, rfl, h2, h3, h4⟩ := h
  obtain ⟨ad, rfl, q2, q3⟩ := h4 (by omega)
  have hv : ActOk x := h0 _ (List.mem_of_getElem? hk)
  refine ⟨ad, c, rfl, hv, q2, fun W' hb => run_load_act W' _ _ hv fun i hi => ?_⟩
  rw [add_add', Nat.mul_comm k 36]
  have h5 := q3 k x hk i hi
  have hx := actC_length hv
  rw [List.getElem?_eq_getElem (by omega)] at h5 ⊢
  exact (hb.cell (p := ad.add (36 * k + i)) (by rw [block_add]; exact q2)).trans h5
def actsC (l : List ActS) : List Value := l.flatMap actC
theorem actsC_append (a b : List ActS) : actsC (a ++ b) = actsC a ++ actsC b := by simp [actsC]
theorem actsC_length {l : List ActS} (h : ∀ x ∈ l, ActOk x) : (actsC l).length = l.length * 36 := by
  induction l with
  | nil => rfl
  | cons v l ih =>
    rw [actsC, List.flatMap_cons, List.length_append, actC_length (h v (List.mem_cons_self ..)), ← actsC, ih fun x hx => h x (List.mem_cons_of_mem _ hx), List.length_cons]
    omega
theorem actsC_get {l : List ActS} (h : ∀ x ∈ l, ActOk x) {k : Nat} {x : ActS} (hk : l[k]? = some x) {i : Nat} (hi : i < 36) : (actsC l)[36 * k + i]? = (actC x)[i]? := by
  induction l generalizing k with
  | nil => simp at hk
  | cons v l ih =>
    have hv := actC_length (h v (List.mem_cons_self ..))
    rw [actsC, List.flatMap_cons, ← actsC]
    cases k with
    | zero =>
      rw [List.getElem?_cons_zero, Option.some.injEq] at hk
      subst hk
      rw [Nat.mul_zero, Nat.zero_add, List.getElem?_append_left (by omega)]
    | succ k =>
      rw [List.getElem?_cons_succ] at hk
      rw [List.getElem?_append_right (by omega), hv, show 36 * (k + 1) + i - 36 = 36 * k + i from by omega]
      exact ih (fun x hx => h x (List.mem_cons_of_mem _ hx)) hk
theorem actsC_one (l : List ActS) : ∀ u ∈ actsC l, u.oneCell' = true := fun u hu => by
  unfold actsC at hu
  rw [List.mem_flatMap] at hu
  obtain ⟨v, _, hu⟩ := hu
  have h := actA_one v
  rw [Array.all_eq_true_iff_forall_mem] at h
  exact h u (by unfold actA; simpa using hu)
theorem info_act : (Try.prog.info? 71).map (fun i => (i.zero, i.size, i.bytes)) = some (some (.agg (actA ⟨0, 0, 0, 0, zeroId⟩)), 36, 64) := by kernel_rfl
theorem zeroAct_ok : ActOk ⟨0, 0, 0, 0, zeroId⟩ := ⟨zeroId_ok, wfi_small (by decide) (by decide), wfi_small (by decide) (by decide), wfi_small (by decide) (by decide), wfi_small (by decide) (by decide)⟩
set_option maxRecDepth 100000 in
/-- An append of a slice of acts onto a row of the call's own. -/
theorem app_acts {B B' : Nat} {w : World} (hB : B ≤ w.heap.size) {v : Value} {n : Nat} {xs : List Value} (hown : w.ownsRow B 71 36 v n xs) {A : Option Addr} {m c : Nat} {l : List ActS} (hr : RdA w B' (.slice A m c) l) (hn : n + m ≤ 2199023255552) :
    ∃ v' w', (Builtin.append_ #[68, 68] 68 #[v, .slice A m c]).run Try.prog w = .ok v' w' ∧
      w'.ownsRow B 71 36 v' (n + m) (xs ++ actsC l) ∧ w.grownBy w' v.ownBlock ∧ (v'.ownBlock = v.ownBlock ∨ v'.ownBlock = some w.heap.size) := by
  obtain ⟨i, hi, hz, hsize, hby⟩ := info_parts info_act
  have ht := Try.underlying68
  obtain ⟨hok, A', c', hv, h1, h2, h3⟩ := hr
  obtain ⟨rfl, rfl, rfl⟩ := Value.slice.inj hv
  rcases A with _ | ad
  · have hm : l.length = 0 := by
      rcases Nat.eq_zero_or_pos l.length with h0 | h0
      · exact h0
      · obtain ⟨ad, h, _⟩ := h3 h0
        cases h
    have hn : l = [] := List.eq_nil_of_length_eq_zero hm
    subst hn
    refine ⟨v, w, ?_, by simpa [actsC] using hown, World.grownBy.refl w _, .inl rfl⟩
    rcases hown.2 with ⟨rfl, rfl⟩ | ⟨g, cap, cur, rfl, _, _, hnc, _⟩
    · simp [Builtin.append_, run_underlying ht, sizeOf, typeInfo, hi, Builtin.lenOf, Builtin.firstCells]
    · simp [Builtin.append_, run_underlying ht, sizeOf, typeInfo, hi, Builtin.lenOf, Builtin.firstCells, hnc, storeCells]
  · obtain ⟨v', w', hrun, q2, q3, _, q5⟩ := run_append_own_at (P := Try.prog) w B 68 68 71 i _ 36 64 ht hi hz hsize hby (actA_size zeroAct_ok) (by omega) v n xs hown ad l.length c (actsC l) (actsC_length hok)
      (fun j x hx => by
        have hj : j < l.length * 36 := by
          have := (List.getElem?_eq_some_iff.1 hx).1
          rw [actsC_length hok] at this
          exact this
        obtain ⟨ad', hA, _, hc⟩ := h3 (by omega)
        injection hA with hA
        subst hA
        have hk : j / 36 < l.length := by omega
        have hd : 36 * (j / 36) + j % 36 = j := by omega
        have hg := actsC_get hok (List.getElem?_eq_getElem hk) (i := j % 36) (by omega)
        have hq := hc (j / 36) _ (List.getElem?_eq_getElem hk) (j % 36) (by omega)
        rw [hd] at hg hq
        rw [hq, ← hg, hx]) (actsC_one l) (by unfold maxLen; omega) (by omega) hB
    exact ⟨v', w', hrun, q2, q3, q5⟩
/-- A row of acts of the call's own reads as these acts. -/
theorem rdA_own {w : World} {base n : Nat} {v : Value} {l : List ActS} (h : w.ownsRow base 71 36 v n (actsC l)) (hok : ∀ x ∈ l, ActOk x) (hn : l.length = n) (hm : n ≤ 2199023255552) : RdA w w.heap.size v l := by
  subst hn
  rcases h.2 with ⟨rfl, h0⟩ | ⟨g, cap, cur, rfl, hb, hg, hcap, _⟩
  · exact ⟨hok, none, 0, by rw [h0], by omega, hm, fun h => by omega⟩
  · have hlt : g < w.heap.size := by
      rcases Nat.lt_or_ge g w.heap.size with h' | h'
      · exact h'
      · rw [Array.getElem?_eq_none h'] at hg; cases hg
    refine ⟨hok, _, cap, rfl, hcap, hm, fun _ => ⟨_, rfl, hlt, fun k x hk i hi => ?_⟩⟩
    have hg := actsC_get hok hk hi
    have hx := actC_length (hok x (List.mem_of_getElem? hk))
    have hxi : (actC x)[i]? = some _ := List.getElem?_eq_getElem (l := actC x) (i := i) (by omega)
    rw [hxi] at hg ⊢
    exact h.cells (g := g) rfl _ _ hg
set_option maxRecDepth 100000 in
theorem act_fill (a b c d : Int) (f : Nat → UInt8) : Try.prog.builtSlice 71 1 [(0, .agg (actA ⟨a, b, c, d, (List.range 32).map f⟩))] = some (actA ⟨a, b, c, d, (List.range 32).map f⟩) := by kernel_rfl
theorem act_built (v : ActS) (h : ActOk v) : Try.prog.builtSlice 71 1 [(0, .agg (actA v))] = some (actA v) := by
  obtain ⟨a, b, c, d, id⟩ := v
  have hid : id.length = 32 := h.id
  have e : id = (List.range 32).map fun i => id.getD i 0 := List.ext_getElem? fun i => by
    by_cases hi : i < 32
    · rw [List.getElem?_map, List.getElem?_range hi, List.getElem?_eq_getElem (by omega), Option.map_some, List.getD_eq_getElem?_getD, List.getElem?_eq_getElem (by omega)]
      rfl
    · rw [List.getElem?_eq_none (by omega), List.getElem?_eq_none (by simp; omega)]
  rw [e]
  exact act_fill a b c d _
theorem wpList_build_actL {ops : Array Oper} {rest : List Oper} {o : Oper} {a : Act} {w : World} {Q : Exit → Act → World → Prop} (hgd : o.guard = none) (x : Operand) (ho : o.op = .buildSlice 68 1 #[(0, x)]) (v : ActS) (hv : ActOk v) (hx : a.eval x = .agg (actA v))
    (h : wpList Try.prog ops Q rest (a.put o.dst (.slice (some ⟨w.heap.size, 0, none⟩) 1 1)) (w.alloc (.cells (actA v) 71))) : wpList Try.prog ops Q (o :: rest) a w :=
  Great.wpList_buildSliceTo hgd 68 71 1 _ ho _ rfl _ rfl Try.underlying68 (actA v) (by
    have hp : ((#[(0, x)] : Array (Nat × Operand)).map fun (i, x) => (i, a.eval x)).toList = [(0, .agg (actA v))] := by simp [hx]
    rw [hp]
    exact act_built v hv) h
end Go.Proofs.Ytbgojlcciealiaa
