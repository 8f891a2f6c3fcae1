/-
  Rows of elements of a few cells each, whatever these hold: in memory, parts of them, appended to. No condition.
  Rows of texts, a cell each: in memory, appended to. No condition.
-/
import Derived.Test.YtkbdkeclbokhdaaDoorQ12
import Derived.Maps.AppendAt
import Derived.Deep.AppendSrc
import Derived.Deep.Upon
import Derived.Deep.Slices
namespace Go.Proofs.YtkbdkeclbokhdaaDoor
open Go Go.RowKit

theorem rowL_length {k : Nat} : ∀ {l : List (List Value)}, (∀ x ∈ l, x.length = k) → l.flatten.length = l.length * k
  | [], _ => by simp
  | a :: l, h => by
    rw [List.flatten_cons, List.length_append, h a (List.mem_cons_self ..), rowL_length fun x hx => h x (List.mem_cons_of_mem _ hx), List.length_cons, Nat.add_mul]
    omega
theorem rowL_get {k : Nat} : ∀ {l : List (List Value)}, (∀ x ∈ l, x.length = k) → ∀ {j : Nat} {x : List Value}, l[j]? = some x → ∀ {i : Nat}, i < k → l.flatten[k * j + i]? = x[i]?
  | [], _, j, x, hj, _, _ => by simp at hj
  | a :: l, h, 0, x, hj, i, hi => by
    simp only [List.getElem?_cons_zero, Option.some.injEq] at hj
    subst hj
    rw [List.flatten_cons, Nat.mul_zero, Nat.zero_add, List.getElem?_append_left (by rw [h _ (List.mem_cons_self ..)]; exact hi)]
  | a :: l, h, j + 1, x, hj, i, hi => by
    simp only [List.getElem?_cons_succ] at hj
    have ha := h a (List.mem_cons_self ..)
    rw [List.flatten_cons, List.getElem?_append_right (by rw [ha, Nat.mul_succ]; omega), ha, show k * (j + 1) + i - k = k * j + i by rw [Nat.mul_succ]; omega]
    exact rowL_get (fun y hy => h y (List.mem_cons_of_mem _ hy)) hj hi
/-- Elements of k cells each. -/
def ElsC (k : Nat) (xs : List (List Value)) : Prop := ∀ x ∈ xs, x.length = k ∧ ∀ u ∈ x, u.oneCell' = true
theorem ElsC.len {k : Nat} {xs : List (List Value)} (h : ElsC k xs) : ∀ x ∈ xs, x.length = k := fun x hx => (h x hx).1
theorem ElsC.one {k : Nat} {xs : List (List Value)} (h : ElsC k xs) : ∀ u ∈ xs.flatten, u.oneCell' = true := fun u hu => by
  obtain ⟨x, hx, hu⟩ := List.mem_flatten.1 hu
  exact (h x hx).2 u hu
/-- A slice of elements of k cells each that are xs, in blocks that ok bears. -/
def RdC (k : Nat) (W : World) (ok : Nat → Prop) (v : Value) (xs : List (List Value)) : Prop :=
  ElsC k xs ∧ ∃ A c, v = .slice A xs.length c ∧ xs.length ≤ c ∧ xs.length ≤ 1000000 ∧ (0 < xs.length → ∃ ad : Addr, A = some ad ∧ ok ad.block ∧ ∀ j x, xs[j]? = some x → ∀ i, i < k → W.cell? (ad.add (k * j + i)) = x[i]?)
section
variable {k : Nat} {W W' : World} {ok ok' : Nat → Prop} {v : Value} {xs : List (List Value)}
/-- An element loaded. -/
theorem run_load_el {P : Program} (w : World) (ty : TypeId) (d : TypeDesc) (hu : P.underlying ty = some d) (hd : (match d with | .struct _ | .array _ _ => true | _ => false) = true) (ad : Addr) (x : List Value) (hs : (P.info? ty).map (·.size) = some x.length) (h : ∀ i, i < x.length → w.cell? (ad.add i) = x[i]?) : (Instr.loadAt ty (.pointer (some ad))).run P w = .ok (.agg x.toArray) w := by
  have hl := run_loadCells_list (P := P) w ad x (fun j u hu => by
    have hj : j < x.length := (List.getElem?_eq_some_iff.1 hu).1
    rw [h j hj, hu])
  cases hq : P.info? ty with
  | none => simp [hq] at hs
  | some i =>
    have hsz : i.size = x.length := by simpa [hq] using hs
    have hagg : (isAgg ty).run P w = .ok true w := by
      unfold isAgg
      rw [Sem.run_bind, run_underlying hu w]
      cases d <;> simp_all
    simp [Instr.loadAt, Instr.sureAddr, loadVar, Sem.run_bind, hagg, sizeOf, typeInfo, hq, hsz, hl]
/-- The cells of a slice, as they are asked for. -/
theorem RdC.first {P : Program} {A : Option Addr} {n c : Nat} (hk : 0 < k) (h : RdC k W ok (.slice A n c) xs) : (Builtin.firstCells k n (.slice A n c)).run P W = .ok xs.flatten.toArray W ∧ n = xs.length := by
  obtain ⟨h0, A', c', h1, h2, h3, h4⟩ := h
  obtain ⟨rfl, rfl, rfl⟩ := Value.slice.inj h1
  refine ⟨?_, rfl⟩
  have hlen := rowL_length h0.len
  rcases Nat.eq_zero_or_pos xs.length with hz | hp
  · have hn : xs = [] := List.eq_nil_of_length_eq_zero hz
    subst hn
    cases A with
    | none => exact run_firstCells_none _ _ _ _ _
    | some ad => exact run_firstCells_some W k 0 ad 0 c [] (by simp) (fun j u hu => by simp at hu)
  · obtain ⟨ad, rfl, q2, q3⟩ := h4 hp
    refine run_firstCells_some W k _ ad _ c _ hlen fun j u hu => ?_
    have hj : j < xs.length * k := by
      have := (List.getElem?_eq_some_iff.1 hu).1
      omega
    have hq : j / k < xs.length := (Nat.div_lt_iff_lt_mul hk).2 hj
    have hd : k * (j / k) + j % k = j := Nat.div_add_mod j k
    have hm := Nat.mod_lt j hk
    have hg := rowL_get h0.len (List.getElem?_eq_getElem hq) hm
    have hw := q3 (j / k) _ (List.getElem?_eq_getElem hq) (j % k) hm
    rw [hd] at hg hw
    rw [hw, ← hg, hu]
theorem RdC.src {P : Program} {tx e' : TypeId} (hkd : P.underlying tx = some (.slice e')) {A : Option Addr} {n c : Nat} (hk : 0 < k) (h : RdC k W ok (.slice A n c) xs) : Src P k tx (.slice A n c) n xs.flatten W := by
  have hn := (h.first (P := P) hk).2
  exact ⟨.inl ⟨e', hkd⟩, fun _ => rfl, (h.first hk).1, ((show RdC k W.drew ok (.slice A n c) xs from h).first hk).1, by rw [rowL_length h.1.len, hn], h.1.one⟩
end
/-- What the laws ask of an element's type and its slice's. -/
structure ElC (P : Program) (e sl : TypeId) (k by_ : Nat) : Prop where
  under : P.underlying sl = some (.slice e)
  info : (P.info? e).map (fun i => (i.zero.map (·.cells.size), i.size, i.bytes)) = some (some k, k, by_)
  small : by_ ≤ 128
  pos : 0 < k
theorem ElC.parts {P : Program} {e sl k by_ : Nat} (H : ElC P e sl k by_) : ∃ i z, P.info? e = some i ∧ i.zero = some z ∧ z.cells.size = k ∧ i.size = k ∧ i.bytes = by_ := by
  obtain ⟨i, hi, hzz⟩ : ∃ i, P.info? e = some i ∧ (i.zero.map (·.cells.size), i.size, i.bytes) = (some k, k, by_) := by
    have := H.info
    cases hq : P.info? e with
    | none => simp [hq] at this
    | some i => exact ⟨i, rfl, by simpa [hq] using this⟩
  simp only [Prod.mk.injEq, Option.map_eq_some_iff] at hzz
  obtain ⟨⟨z, hz, hzs⟩, hsize, hby⟩ := hzz
  exact ⟨i, z, hi, hz, hzs, hsize, hby⟩
section
variable {P : Program} {e sl k by_ : Nat} {w : World} {ok ok' : Nat → Prop}
/-- Nothing is appended. -/
theorem app_none (H : ElC P e sl k by_) {A A' : Option Addr} {n c c' : Nat} (hc : n ≤ c) (hr : RdC k w ok (.slice A' 0 c') []) : (Builtin.append_ #[sl, sl] sl #[.slice A n c, .slice A' 0 c']).run P w = .ok (.slice A n c) w := by
  obtain ⟨i, z, hi, hz, hzs, hsize, hby⟩ := H.parts
  have hs := hr.src (P := P) H.under H.pos
  rw [← hsize] at hs
  exact run_append_nothing w sl sl sl e i H.under hi A n c hc _ hs
/-- Onto a row of the call's own. -/
theorem app_own (H : ElC P e sl k by_) {B : Nat} (hB : B ≤ w.heap.size) {v : Value} {n : Nat} {zs : List (List Value)} (hown : w.ownsRow B e k v n zs.flatten) {A : Option Addr} {m c : Nat} {ys : List (List Value)} (hy : RdC k w ok (.slice A m c) ys) (hn : n + m ≤ 1000000) :
    ∃ v' w', (Builtin.append_ #[sl, sl] sl #[v, .slice A m c]).run P w = .ok v' w' ∧ w'.ownsRow B e k v' (n + m) (zs ++ ys).flatten ∧ w.grownBy w' v.ownBlock ∧ (v'.ownBlock = v.ownBlock ∨ v'.ownBlock = some w.heap.size) := by
  obtain ⟨i, z, hi, hz, hzs, hsize, hby⟩ := H.parts
  have hyl := (hy.first (P := P) H.pos).2
  obtain ⟨hok, A', c', hv, h1, h2, h3⟩ := id hy
  rcases Nat.eq_zero_or_pos m with h0 | h0
  · subst h0
    have hys : ys = [] := List.eq_nil_of_length_eq_zero hyl.symm
    subst hys
    obtain ⟨Av, cv, rfl, hcv⟩ := own_len hown
    refine ⟨_, w, app_none H hcv hy, by simpa using hown, World.grownBy.refl w _, .inl rfl⟩
  · obtain ⟨ad, rfl, q2, q3⟩ := h3 (by omega)
    have hbytes : (n + m) * by_ ≤ 140737488355328 := Nat.le_trans (Nat.mul_le_mul hn H.small) (by omega)
    have hlen := rowL_length hok.len
    obtain ⟨rfl, -, rfl⟩ := Value.slice.inj hv
    obtain ⟨v', w', hrun, q2', q3', _, q5⟩ := run_append_own_at (P := P) w B sl sl e i z k by_ H.under hi hz hsize hby hzs H.pos v n _ hown ad m c ys.flatten (by rw [hlen, hyl])
      (fun j u hu => by
        have hj : j < ys.length * k := by
          have := (List.getElem?_eq_some_iff.1 hu).1
          omega
        have hq : j / k < ys.length := (Nat.div_lt_iff_lt_mul H.pos).2 hj
        have hd : k * (j / k) + j % k = j := Nat.div_add_mod j k
        have hm := Nat.mod_lt j H.pos
        have hg := rowL_get hok.len (List.getElem?_eq_getElem hq) hm
        have hw := q3 (j / k) _ (List.getElem?_eq_getElem hq) (j % k) hm
        rw [hd] at hg hw
        rw [hw, ← hg, hu]) hok.one (by unfold maxLen; omega) hbytes hB
    exact ⟨v', w', hrun, by rw [List.flatten_append]; exact q2', q3', q5⟩
/-- One element in a block of its own. -/
theorem rdC_one {ty : TypeId} {g : Nat} {x : List Value} (hb : Blk w g ty x.toArray) (hx : ElsC k [x]) : RdC k w (fun b => b = g) (.slice (some ⟨g, 0, none⟩) 1 1) [x] := by
  refine ⟨hx, _, 1, rfl, Nat.le_refl _, by simp, fun _ => ⟨_, rfl, rfl, fun j y hj i hi => ?_⟩⟩
  have hk0 : j = 0 ∧ y = x := by
    cases j with
    | zero => simpa [eq_comm] using hj
    | succ j => simp at hj
  obtain ⟨rfl, rfl⟩ := hk0
  have e : (⟨g, 0, none⟩ : Addr).add (k * 0 + i) = ⟨g, i, none⟩ := by unfold Addr.add; split <;> simp_all
  rw [e, hb.cell, List.getElem?_toArray]
end
end Go.Proofs.YtkbdkeclbokhdaaDoor
namespace Go.Proofs.YtkbdkeclbokhdaaDoor
open Go Go.RowKit

/-- Texts, a cell each. -/
def strC (l : List (List UInt8)) : List (List Value) := l.map fun b => [.string ⟨b.toArray⟩]
theorem elStr : ElC Tryd.prog 9 35 1 16 := ⟨Tryd.underlying35, by kernel_rfl, by omega, by omega⟩
theorem elsStr (l : List (List UInt8)) : ElsC 1 (strC l) := fun x hx => by
  obtain ⟨b, _, rfl⟩ := List.mem_map.1 hx
  exact ⟨rfl, fun u hu => by rw [List.mem_singleton] at hu; rw [hu]; rfl⟩
theorem strC_append (a b : List (List UInt8)) : strC (a ++ b) = strC a ++ strC b := by simp [strC]
/-- A text appended onto a row of texts of the call's own. -/
theorem app_text {B : Nat} {w : World} (hB : B ≤ w.heap.size) {v : Value} {n : Nat} {l : List (List UInt8)} (hown : w.ownsRow B 9 1 v n (strC l).flatten) (b : List UInt8) (hn : n < 900000) :
    ∃ v' w', (Builtin.append_ #[35, 35] 35 #[v, .slice (some ⟨w.heap.size, 0, none⟩) 1 1]).run Tryd.prog (w.alloc (.cells #[.string ⟨b.toArray⟩] 9)) = .ok v' w' ∧ w'.ownsRow B 9 1 v' (n + 1) (strC (l ++ [b])).flatten ∧ w.grownBy w' v.ownBlock ∧ (v'.ownBlock = v.ownBlock ∨ ∃ g, v'.ownBlock = some g ∧ w.heap.size ≤ g) := by
  have hb0 : Below w.heap.size w (w.alloc (.cells #[.string ⟨b.toArray⟩] 9)) := (Below.refl _ _).alloc (Nat.le_refl _) _
  have hr : RdC 1 (w.alloc (.cells #[.string ⟨b.toArray⟩] 9)) (fun i => i = w.heap.size) (.slice (some ⟨w.heap.size, 0, none⟩) 1 1) (strC [b]) := rdC_one (ty := 9) (x := [.string ⟨b.toArray⟩]) (Blk.newAt _ _ rfl rfl) (elsStr [b])
  obtain ⟨v', w', hrun, h1, h2, h3⟩ := app_own elStr (Nat.le_trans hB hb0.size) (ownsRow_kept hown hb0) hr (by omega)
  rw [← strC_append] at h1
  exact ⟨v', w', hrun, h1, (World.grownBy_alloc w _ _).trans h2, h3.imp id fun h => ⟨_, h, by simp⟩⟩
theorem str_here {B n c j : Nat} {w : World} {A : Option Addr} {ws : List (List UInt8)} {b : List UInt8} (h : w.ownsRow B 9 1 (.slice A n c) n (strC ws).flatten) (hb : ws[j]? = some b) : ∃ ad, A = some ad ∧ w.cell? (ad.add j) = some (.string ⟨b.toArray⟩) := by
  have hg := rowL_get (k := 1) (elsStr ws).len (j := j) (x := [.string ⟨b.toArray⟩]) (by unfold strC; rw [List.getElem?_map, hb]; rfl) (i := 0) (by omega)
  rw [Nat.one_mul, Nat.add_zero] at hg
  rcases h.2 with ⟨hv, h0⟩ | ⟨g, cap, cur, hv, _⟩
  · have := h.1
    rw [h0, Nat.zero_mul] at this
    rw [List.eq_nil_of_length_eq_zero this] at hg
    simp at hg
  · obtain ⟨rfl, -, rfl⟩ := Value.slice.inj hv
    exact ⟨_, rfl, h.cells (g := g) rfl j _ hg⟩
end Go.Proofs.YtkbdkeclbokhdaaDoor
