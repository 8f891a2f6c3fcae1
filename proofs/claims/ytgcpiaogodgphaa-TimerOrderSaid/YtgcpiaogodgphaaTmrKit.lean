/-
  Rows of elements that are a few whole numbers each: in memory, loaded, appended to, parts of them. No condition.
-/
import Derived.Test.YtgcpiaogodgphaaBlk
import Derived.Maps.AppendAt
import Derived.Great.Walk
import Derived.OwnWalk
import Derived.Lib.Hide
import Derived.WalkMore
import Derived.Deep.Slices
namespace Go.Proofs.Ytgcpiaogodgphaa
open Go Go.RowKit

def ic (x : List Int) : List Value := x.map (Value.int .i64)
def icA (x : List Int) : Array Value := (ic x).toArray
theorem ic_length (x : List Int) : (ic x).length = x.length := by simp [ic]
theorem icA_size (x : List Int) : (icA x).size = x.length := by simp [icA, ic]
theorem ic_one (x : List Int) : ∀ u ∈ ic x, u.oneCell' = true := fun u hu => by
  obtain ⟨n, _, rfl⟩ := List.mem_map.1 hu
  rfl
theorem icA_one (x : List Int) : (icA x).all (·.oneCell') = true := by
  rw [Array.all_eq_true_iff_forall_mem]
  intro u hu
  exact ic_one x u (by simpa [icA] using hu)
def rowC (l : List (List Int)) : List Value := l.flatMap ic
theorem rowC_append (a b : List (List Int)) : rowC (a ++ b) = rowC a ++ rowC b := by simp [rowC]
theorem rowC_length {k : Nat} {l : List (List Int)} (h : ∀ x ∈ l, x.length = k) : (rowC l).length = l.length * k := by
  induction l with
  | nil => simp [rowC]
  | cons a l ih =>
    have e : rowC (a :: l) = ic a ++ rowC l := rfl
    rw [e, List.length_append, ic_length, h a (List.mem_cons_self ..), ih fun x hx => h x (List.mem_cons_of_mem _ hx), List.length_cons, Nat.add_mul]
    omega
theorem rowC_get {k : Nat} : ∀ {l : List (List Int)}, (∀ x ∈ l, x.length = k) → ∀ {j : Nat} {x : List Int}, l[j]? = some x → ∀ {i : Nat}, i < k → (rowC l)[k * j + i]? = (ic x)[i]?
  | [], _, j, x, hj, _, _ => by simp at hj
  | a :: l, h, 0, x, hj, i, hi => by
    have e : rowC (a :: l) = ic a ++ rowC l := rfl
    simp only [List.getElem?_cons_zero, Option.some.injEq] at hj
    subst hj
    rw [e, Nat.mul_zero, Nat.zero_add, List.getElem?_append_left (by rw [ic_length, h _ (List.mem_cons_self ..)]; exact hi)]
  | a :: l, h, j + 1, x, hj, i, hi => by
    have e : rowC (a :: l) = ic a ++ rowC l := rfl
    simp only [List.getElem?_cons_succ] at hj
    have ha := h a (List.mem_cons_self ..)
    rw [e, List.getElem?_append_right (by rw [ic_length, ha, Nat.mul_succ]; omega), ic_length, ha, show k * (j + 1) + i - k = k * j + i by rw [Nat.mul_succ]; omega]
    exact rowC_get (fun y hy => h y (List.mem_cons_of_mem _ hy)) hj hi
theorem rowC_one (l : List (List Int)) : ∀ u ∈ rowC l, u.oneCell' = true := fun u hu => by
  obtain ⟨x, _, hx⟩ := List.mem_flatMap.1 hu
  exact ic_one x u hx
/-- A slice of elements of k whole numbers each that reads as l, its cells in blocks below B. -/
def RdK (k : Nat) (W : World) (B : Nat) (v : Value) (l : List (List Int)) : Prop :=
  (∀ x ∈ l, x.length = k) ∧ ∃ A c, v = .slice A l.length c ∧ l.length ≤ c ∧ l.length ≤ 1000000 ∧ (0 < l.length → ∃ ad : Addr, A = some ad ∧ ad.block < B ∧ ∀ j x, l[j]? = some x → ∀ i, i < k → W.cell? (ad.add (k * j + i)) = (ic x)[i]?)
section
variable {k : Nat} {W W' : World} {B B' : Nat} {v : Value} {l : List (List Int)}
theorem ic_some {x : List Int} {i : Nat} (hx : x.length = k) (hi : i < k) : (ic x)[i]? = some ((ic x)[i]'(by rw [ic_length, hx]; exact hi)) := List.getElem?_eq_getElem _
theorem RdK.old (h : RdK k W B v l) (hb : Below B W W') : RdK k W' B v l := by
  obtain ⟨h0, A, c, h1, h2, h3, h4⟩ := h
  refine ⟨h0, A, c, h1, h2, h3, fun hl => ?_⟩
  obtain ⟨ad, q1, q2, q3⟩ := h4 hl
  refine ⟨ad, q1, q2, fun j x hj i hi => ?_⟩
  have h5 := q3 j x hj i hi
  rw [ic_some (h0 x (List.mem_of_getElem? hj)) hi] at h5 ⊢
  exact (hb.cell (p := ad.add (k * j + i)) (by rw [block_add]; exact q2)).trans h5
theorem RdK.mono (h : RdK k W B v l) (hB : B ≤ B') : RdK k W B' v l := by
  obtain ⟨h0, A, c, h1, h2, h3, h4⟩ := h
  refine ⟨h0, A, c, h1, h2, h3, fun hl => ?_⟩
  obtain ⟨ad, q1, q2, q3⟩ := h4 hl
  exact ⟨ad, q1, Nat.lt_of_lt_of_le q2 hB, q3⟩
theorem RdK.nil (W : World) (B : Nat) : RdK k W B (.slice none 0 0) [] := ⟨fun _ h => by simp at h, none, 0, rfl, Nat.le_refl _, by simp, fun h => by simp at h⟩
/-- An element loaded. -/
theorem run_load_ic {P : Program} (w : World) (ty : TypeId) (d : TypeDesc) (hu : P.underlying ty = some d) (hd : (match d with | .struct _ | .array _ _ => true | _ => false) = true) (ad : Addr) (x : List Int) (hs : (P.info? ty).map (·.size) = some x.length) (h : ∀ i, i < x.length → w.cell? (ad.add i) = (ic x)[i]?) : (Instr.loadAt ty (.pointer (some ad))).run P w = .ok (.agg (icA x)) w := by
  have hl := run_loadCells_list (P := P) w ad (ic x) (fun j u hu => by
    have hj : j < x.length := by
      have := (List.getElem?_eq_some_iff.1 hu).1
      rw [ic_length] at this
      exact this
    rw [h j hj, hu])
  rw [ic_length] at hl
  cases hq : P.info? ty with
  | none => simp [hq] at hs
  | some i =>
    have hsz : i.size = x.length := by simpa [hq] using hs
    have hagg : (isAgg ty).run P w = .ok true w := by
      unfold isAgg
      rw [Sem.run_bind, run_underlying hu w]
      cases d <;> simp_all
    simp [Instr.loadAt, Instr.sureAddr, loadVar, Sem.run_bind, hagg, sizeOf, typeInfo, hq, hsz, hl, icA]
theorem RdK.here (h : RdK k W B v l) {j : Nat} {x : List Int} (hj : l[j]? = some x) : ∃ ad c, v = .slice (some ad) l.length c ∧ x.length = k ∧ ad.block < B ∧ ∀ W', Below B W W' → ∀ i, i < k → W'.cell? ((ad.add (j * k)).add i) = (ic x)[i]? := by
  have hlt := (List.getElem?_eq_some_iff.1 hj).1
  obtain ⟨h0, A, c, rfl, h2, h3, h4⟩ := h
  obtain ⟨ad, rfl, q2, q3⟩ := h4 (by omega)
  have hx := h0 _ (List.mem_of_getElem? hj)
  refine ⟨ad, c, rfl, hx, q2, fun W' hb i hi => ?_⟩
  rw [Go.Deep.add_add, Nat.mul_comm j k]
  have h5 := q3 j x hj i hi
  rw [ic_some hx hi] at h5 ⊢
  exact (hb.cell (p := ad.add (k * j + i)) (by rw [block_add]; exact q2)).trans h5
end
/-- What the laws ask of an element's type and its slice's. -/
structure ElT (P : Program) (e sl : TypeId) (k by_ : Nat) : Prop where
  under : P.underlying sl = some (.slice e)
  info : (P.info? e).map (fun i => (i.zero.map (·.cells.size), i.size, i.bytes)) = some (some k, k, by_)
  small : by_ ≤ 64
  pos : 0 < k
theorem app_k {P : Program} {e sl k by_ : Nat} (H : ElT P e sl k by_) {B B' : Nat} {w : World} (hB : B ≤ w.heap.size) {v : Value} {n : Nat} {xs : List Value} (hown : w.ownsRow B e k v n xs) {A : Option Addr} {m c : Nat} {l : List (List Int)} (hr : RdK k w B' (.slice A m c) l) (hn : n + m ≤ 1000000) :
    ∃ v' w', (Builtin.append_ #[sl, sl] sl #[v, .slice A m c]).run P w = .ok v' w' ∧ w'.ownsRow B e k v' (n + m) (xs ++ rowC l) ∧ w.grownBy w' v.ownBlock ∧ (v'.ownBlock = v.ownBlock ∨ v'.ownBlock = some w.heap.size) := by
  obtain ⟨i, hi, hzz⟩ : ∃ i, P.info? e = some i ∧ (i.zero.map (·.cells.size), i.size, i.bytes) = (some k, k, by_) := by
    have := H.info
    cases hq : P.info? e with
    | none => simp [hq] at this
    | some i => exact ⟨i, rfl, by simpa [hq] using this⟩
  simp only [Prod.mk.injEq, Option.map_eq_some_iff] at hzz
  obtain ⟨⟨z, hz, hzs⟩, hsize, hby⟩ := hzz
  have ht := H.under
  obtain ⟨hok, A', c', hv, h1, h2, h3⟩ := hr
  obtain ⟨rfl, rfl, rfl⟩ := Value.slice.inj hv
  rcases A with _ | ad
  · have hm : l.length = 0 := by
      rcases Nat.eq_zero_or_pos l.length with h0 | h0
      · exact h0
      · obtain ⟨ad, h, _⟩ := h3 h0
        cases h
    have hn : l = [] := List.eq_nil_of_length_eq_zero hm
    subst hn
    refine ⟨v, w, ?_, by simpa [rowC] using hown, World.grownBy.refl w _, .inl rfl⟩
    rcases hown.2 with ⟨rfl, rfl⟩ | ⟨g, cap, cur, rfl, _, _, hnc, _⟩
    · simp [Builtin.append_, run_underlying ht, sizeOf, typeInfo, hi, Builtin.lenOf, Builtin.firstCells]
    · simp [Builtin.append_, run_underlying ht, sizeOf, typeInfo, hi, Builtin.lenOf, Builtin.firstCells, hnc, storeCells]
  · have hbytes : (n + l.length) * by_ ≤ 140737488355328 := Nat.le_trans (Nat.mul_le_mul hn H.small) (by omega)
    obtain ⟨v', w', hrun, q2, q3, _, q5⟩ := run_append_own_at (P := P) w B sl sl e i _ k by_ ht hi hz hsize hby hzs H.pos v n xs hown ad l.length c (rowC l) (rowC_length hok)
      (fun j u hu => by
        have hk := H.pos
        have hj : j < l.length * k := by
          have := (List.getElem?_eq_some_iff.1 hu).1
          rw [rowC_length hok] at this
          exact this
        have hq : j / k < l.length := (Nat.div_lt_iff_lt_mul hk).2 hj
        obtain ⟨ad', hA, _, hc⟩ := h3 (Nat.lt_of_le_of_lt (Nat.zero_le _) hq)
        injection hA with hA
        subst hA
        have hd : k * (j / k) + j % k = j := Nat.div_add_mod j k
        have hm := Nat.mod_lt j hk
        have hg := rowC_get hok (List.getElem?_eq_getElem hq) hm
        have hw := hc (j / k) _ (List.getElem?_eq_getElem hq) (j % k) hm
        rw [hd] at hg hw
        rw [hw, ← hg, hu]) (rowC_one l) (by unfold maxLen; omega) hbytes hB
    exact ⟨v', w', hrun, q2, q3, q5⟩
/-- A row of the call's own reads as these elements. -/
theorem rdK_own {e k : Nat} {w : World} {base n : Nat} {v : Value} {l : List (List Int)} (h : w.ownsRow base e k v n (rowC l)) (hok : ∀ x ∈ l, x.length = k) (hn : l.length = n) (hm : n ≤ 1000000) : RdK k w w.heap.size v l := by
  subst hn
  rcases h.2 with ⟨rfl, h0⟩ | ⟨g, cap, cur, rfl, hb, hg, hcap, _⟩
  · exact ⟨hok, none, 0, by rw [h0], by omega, hm, fun h => by omega⟩
  · have hlt : g < w.heap.size := by
      rcases Nat.lt_or_ge g w.heap.size with h' | h'
      · exact h'
      · rw [Array.getElem?_eq_none h'] at hg; cases hg
    refine ⟨hok, _, cap, rfl, hcap, hm, fun _ => ⟨_, rfl, hlt, fun j x hj i hi => ?_⟩⟩
    have hg := rowC_get hok hj hi
    rw [ic_some (hok x (List.mem_of_getElem? hj)) hi] at hg ⊢
    exact h.cells (g := g) rfl _ _ hg
theorem ownK_kept {B : Nat} {e : TypeId} {k : Nat} {v : Value} {n : Nat} {xs : List Value} {w w' : World} (h : w.ownsRow B e k v n xs) (hb : Below w.heap.size w w') : w'.ownsRow B e k v n xs := by
  refine ⟨h.1, ?_⟩
  rcases h.2 with h0 | ⟨g, cap, cur, h1, h2, h3, h4⟩
  · exact .inl h0
  · refine .inr ⟨g, cap, cur, h1, h2, (hb.block g ?_).trans h3, h4⟩
    rcases Nat.lt_or_ge g w.heap.size with h' | h'
    · exact h'
    · rw [Array.getElem?_eq_none h'] at h3; cases h3
theorem ownK_nil (w : World) (B : Nat) (e k : Nat) : w.ownsRow B e k (.slice none 0 0) 0 (rowC []) := ⟨by simp [rowC], .inl ⟨rfl, rfl⟩⟩
theorem rdK_new {k : Nat} (w : World) (ty : TypeId) (x : List Int) (hx : x.length = k) : RdK k (w.alloc (.cells (icA x) ty)) (w.heap.size + 1) (.slice (some ⟨w.heap.size, 0, none⟩) 1 1) [x] := by
  refine ⟨fun y hy => by rw [List.mem_singleton] at hy; rw [hy]; exact hx, _, 1, rfl, Nat.le_refl _, by simp, fun _ => ⟨_, rfl, Nat.lt_succ_self _, fun j y hj i hi => ?_⟩⟩
  have hk0 : j = 0 ∧ y = x := by
    cases j with
    | zero => simpa [eq_comm] using hj
    | succ j => simp at hj
  obtain ⟨rfl, rfl⟩ := hk0
  have e : (⟨w.heap.size, 0, none⟩ : Addr).add (k * 0 + i) = ⟨w.heap.size, i, none⟩ := by unfold Addr.add; split <;> simp_all
  rw [e, (Blk.new w _ (icA y)).cell]
  unfold icA
  rw [List.getElem?_toArray]
end Go.Proofs.Ytgcpiaogodgphaa
