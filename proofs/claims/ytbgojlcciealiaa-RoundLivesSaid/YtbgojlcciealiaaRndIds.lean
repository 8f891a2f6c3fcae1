/-
  Rows of IDs of the call's own, that grow (after rows of votes). No condition.
-/
import Derived.Test.YtbgojlcciealiaaQBits
namespace Go.Proofs.Ytbgojlcciealiaa
open Go Go.RowKit Go.Maps

def idL (l : List UInt8) : List Value := l.map Extern.Stop.cell
theorem idL_length {l : List UInt8} (h : IdOk l) : (idL l).length = 32 := by unfold idL; rw [List.length_map]; exact h
/-- A slice of IDs that reads as l, its cells in blocks below B. -/
def RdI (W : World) (B : Nat) (v : Value) (l : List (List UInt8)) : Prop :=
  (∀ x ∈ l, IdOk x) ∧ ∃ A c, v = .slice A l.length c ∧ l.length ≤ c ∧ l.length ≤ 4398046511104 ∧ (0 < l.length → ∃ ad : Addr, A = some ad ∧ ad.block < B ∧ ∀ k x, l[k]? = some x → ∀ i, i < 32 → W.cell? (ad.add (32 * k + i)) = (idL x)[i]?)
theorem RdI.old {W W' : World} {B : Nat} {v : Value} {l : List (List UInt8)} (h : RdI W B v l) (hb : Below B W W') : RdI W' B v l := by
  obtain ⟨h0, A, c, h1, h2, h3, h4⟩ := h
  refine ⟨h0, A, c, h1, h2, h3, fun hl => ?_⟩
  obtain ⟨ad, q1, q2, q3⟩ := h4 hl
  refine ⟨ad, q1, q2, fun k x hk i hi => ?_⟩
  have h5 := q3 k x hk i hi
  have hx := idL_length (h0 x (List.mem_of_getElem? hk))
  rw [List.getElem?_eq_getElem (by omega)] at h5 ⊢
  exact (hb.cell (p := ad.add (32 * k + i)) (by rw [block_add]; exact q2)).trans h5
theorem RdI.mono {W : World} {B B' : Nat} {v : Value} {l : List (List UInt8)} (h : RdI W B v l) (hB : B ≤ B') : RdI W B' v l := by
  obtain ⟨h0, A, c, h1, h2, h3, h4⟩ := h
  refine ⟨h0, A, c, h1, h2, h3, fun hl => ?_⟩
  obtain ⟨ad, q1, q2, q3⟩ := h4 hl
  exact ⟨ad, q1, Nat.lt_of_lt_of_le q2 hB, q3⟩
def idsC (l : List (List UInt8)) : List Value := l.flatMap idL
theorem idsC_append (a b : List (List UInt8)) : idsC (a ++ b) = idsC a ++ idsC b := by simp [idsC]
theorem idsC_length {l : List (List UInt8)} (h : ∀ x ∈ l, IdOk x) : (idsC l).length = l.length * 32 := by
  induction l with
  | nil => rfl
  | cons v l ih =>
    rw [idsC, List.flatMap_cons, List.length_append, idL_length (h v (List.mem_cons_self ..)), ← idsC, ih fun x hx => h x (List.mem_cons_of_mem _ hx), List.length_cons]
    omega
theorem idsC_get {l : List (List UInt8)} (h : ∀ x ∈ l, IdOk x) {k : Nat} {x : (List UInt8)} (hk : l[k]? = some x) {i : Nat} (hi : i < 32) : (idsC l)[32 * k + i]? = (idL x)[i]? := by
  induction l generalizing k with
  | nil => simp at hk
  | cons v l ih =>
    have hv := idL_length (h v (List.mem_cons_self ..))
    rw [idsC, List.flatMap_cons, ← idsC]
    cases k with
    | zero =>
      rw [List.getElem?_cons_zero, Option.some.injEq] at hk
      subst hk
      rw [Nat.mul_zero, Nat.zero_add, List.getElem?_append_left (by omega)]
    | succ k =>
      rw [List.getElem?_cons_succ] at hk
      rw [List.getElem?_append_right (by omega), hv, show 32 * (k + 1) + i - 32 = 32 * k + i from by omega]
      exact ih (fun x hx => h x (List.mem_cons_of_mem _ hx)) hk
theorem idsC_one (l : List (List UInt8)) : ∀ u ∈ idsC l, u.oneCell' = true := fun u hu => by
  unfold idsC at hu
  rw [List.mem_flatMap] at hu
  obtain ⟨v, _, hu⟩ := hu
  have h := idC_one v
  rw [Array.all_eq_true_iff_forall_mem] at h
  exact h u (by unfold idC; simpa [idL] using hu)
theorem info_idP : (Try.prog.info? 24).map (fun i => (i.zero, i.size, i.bytes)) = some (some (.agg (idC zeroId)), 32, 32) := by kernel_rfl
set_option maxRecDepth 100000 in
/-- An append of a slice of IDs onto a row of the call's own. -/
theorem app_ids {B B' : Nat} {w : World} (hB : B ≤ w.heap.size) {v : Value} {n : Nat} {xs : List Value} (hown : w.ownsRow B 24 32 v n xs) {A : Option Addr} {m c : Nat} {l : List (List UInt8)} (hr : RdI w B' (.slice A m c) l) (hn : n + m ≤ 4398046511104) :
    ∃ v' w', (Builtin.append_ #[49, 49] 49 #[v, .slice A m c]).run Try.prog w = .ok v' w' ∧
      w'.ownsRow B 24 32 v' (n + m) (xs ++ idsC l) ∧ w.grownBy w' v.ownBlock ∧ (v'.ownBlock = v.ownBlock ∨ v'.ownBlock = some w.heap.size) := by
  obtain ⟨i, hi, hz, hsize, hby⟩ := info_parts info_idP
  have ht := Try.underlying49
  obtain ⟨hok, A', c', hv, h1, h2, h3⟩ := hr
  obtain ⟨rfl, rfl, rfl⟩ := Value.slice.inj hv
  rcases A with _ | ad
  · have hm : l.length = 0 := by
      rcases Nat.eq_zero_or_pos l.length with h0 | h0
      · exact h0
      · obtain ⟨ad, h, _⟩ := h3 h0
        cases h
    have hn : l = [] := List.eq_nil_of_length_eq_zero hm
    subst hn
    refine ⟨v, w, ?_, by simpa [idsC] using hown, World.grownBy.refl w _, .inl rfl⟩
    rcases hown.2 with ⟨rfl, rfl⟩ | ⟨g, cap, cur, rfl, _, _, hnc, _⟩
    · simp [Builtin.append_, run_underlying ht, sizeOf, typeInfo, hi, Builtin.lenOf, Builtin.firstCells]
    · simp [Builtin.append_, run_underlying ht, sizeOf, typeInfo, hi, Builtin.lenOf, Builtin.firstCells, hnc, storeCells]
  · obtain ⟨v', w', hrun, q2, q3, _, q5⟩ := run_append_own_at (P := Try.prog) w B 49 49 24 i _ 32 32 ht hi hz hsize hby (idC_size zeroId_ok) (by omega) v n xs hown ad l.length c (idsC l) (idsC_length hok)
      (fun j x hx => by
        have hj : j < l.length * 32 := by
          have := (List.getElem?_eq_some_iff.1 hx).1
          rw [idsC_length hok] at this
          exact this
        obtain ⟨ad', hA, _, hc⟩ := h3 (by omega)
        injection hA with hA
        subst hA
        have hk : j / 32 < l.length := by omega
        have hd : 32 * (j / 32) + j % 32 = j := by omega
        have hg := idsC_get hok (List.getElem?_eq_getElem hk) (i := j % 32) (by omega)
        have hq := hc (j / 32) _ (List.getElem?_eq_getElem hk) (j % 32) (by omega)
        rw [hd] at hg hq
        rw [hq, ← hg, hx]) (idsC_one l) (by unfold maxLen; omega) (by omega) hB
    exact ⟨v', w', hrun, q2, q3, q5⟩
/-- A row of IDs of the call's own reads as these IDs. -/
theorem rdI_own {w : World} {base n : Nat} {v : Value} {l : List (List UInt8)} (h : w.ownsRow base 24 32 v n (idsC l)) (hok : ∀ x ∈ l, IdOk x) (hn : l.length = n) (hm : n ≤ 4398046511104) : RdI w w.heap.size v l := by
  subst hn
  rcases h.2 with ⟨rfl, h0⟩ | ⟨g, cap, cur, rfl, hb, hg, hcap, _⟩
  · exact ⟨hok, none, 0, by rw [h0], by omega, hm, fun h => by omega⟩
  · have hlt : g < w.heap.size := by
      rcases Nat.lt_or_ge g w.heap.size with h' | h'
      · exact h'
      · rw [Array.getElem?_eq_none h'] at hg; cases hg
    refine ⟨hok, _, cap, rfl, hcap, hm, fun _ => ⟨_, rfl, hlt, fun k x hk i hi => ?_⟩⟩
    have hg := idsC_get hok hk hi
    have hx := idL_length (hok x (List.mem_of_getElem? hk))
    have hxi : (idL x)[i]? = some _ := List.getElem?_eq_getElem (l := idL x) (i := i) (by omega)
    rw [hxi] at hg ⊢
    exact h.cells (g := g) rfl _ _ hg
set_option maxRecDepth 100000 in
theorem idP_fill (f : Nat → UInt8) : Try.prog.builtSlice 24 1 [(0, .agg (idC ((List.range 32).map f)))] = some (idC ((List.range 32).map f)) := by kernel_rfl
theorem idP_built (v : List UInt8) (h : IdOk v) : Try.prog.builtSlice 24 1 [(0, .agg (idC v))] = some (idC v) := by
  have hid : v.length = 32 := h
  have e : v = (List.range 32).map fun i => v.getD i 0 := List.ext_getElem? fun i => by
    by_cases hi : i < 32
    · rw [List.getElem?_map, List.getElem?_range hi, List.getElem?_eq_getElem (by omega), Option.map_some, List.getD_eq_getElem?_getD, List.getElem?_eq_getElem (by omega)]
      rfl
    · rw [List.getElem?_eq_none (by omega), List.getElem?_eq_none (by simp; omega)]
  rw [e]
  exact idP_fill _
set_option maxRecDepth 100000 in
theorem rdI_new (w : World) (x : (List UInt8)) (hx : IdOk x) : RdI (w.alloc (.cells (idC x) 24)) (w.heap.size + 1) (.slice (some ⟨w.heap.size, 0, none⟩) 1 1) [x] := by
  refine ⟨fun y hy => by rw [List.mem_singleton] at hy; rw [hy]; exact hx, _, 1, rfl, Nat.le_refl _, by simp, fun _ => ⟨_, rfl, Nat.lt_succ_self _, fun k y hk i hi => ?_⟩⟩
  have hk0 : k = 0 ∧ y = x := by
    cases k with
    | zero => simpa [eq_comm] using hk
    | succ k => simp at hk
  obtain ⟨rfl, rfl⟩ := hk0
  have e : (⟨w.heap.size, 0, none⟩ : Addr).add (32 * 0 + i) = ⟨w.heap.size, i, none⟩ := by unfold Addr.add; split <;> simp_all
  rw [e, (Blk.new w _ (idC y)).cell]
  unfold idC
  rw [List.getElem?_toArray]
  rfl
end Go.Proofs.Ytbgojlcciealiaa
