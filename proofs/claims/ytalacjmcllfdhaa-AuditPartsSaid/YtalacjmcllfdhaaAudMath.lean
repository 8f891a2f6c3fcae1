/-
  Audit: where lists part, pairs of lists, entries by their numbers: mathematics. No condition.
-/
import Derived.Test.YtalacjmcllfdhaaMath
namespace Go.Proofs.Ytalacjmcllfdhaa

/-- The first place at which two lists part. -/
def diffL {α : Type} [DecidableEq α] (a b : List α) : Option Nat := (List.range (min a.length b.length)).find? fun k => decide (a[k]? ≠ b[k]?)
theorem diffL_some {α : Type} [DecidableEq α] {a b : List α} {k : Nat} (h1 : k < a.length) (h2 : k < b.length) (hd : a[k]? ≠ b[k]?) (hb : ∀ j, j < k → a[j]? = b[j]?) : diffL a b = some k := by
  unfold diffL
  rw [List.find?_range_eq_some]
  refine ⟨by simpa using hd, List.mem_range.2 (by omega), fun j hj => by simpa using hb j hj⟩
theorem diffL_none {α : Type} [DecidableEq α] {a b : List α} (hb : ∀ j, j < a.length → j < b.length → a[j]? = b[j]?) : diffL a b = none := by
  unfold diffL
  rw [List.find?_eq_none]
  intro j hj
  have := List.mem_range.1 hj
  simpa using hb j (by omega) (by omega)
theorem diffL_cases {α : Type} [DecidableEq α] (a b : List α) : (diffL a b = none ∧ ∀ j, j < a.length → j < b.length → a[j]? = b[j]?) ∨ ∃ k, diffL a b = some k ∧ k < a.length ∧ k < b.length ∧ a[k]? ≠ b[k]? ∧ ∀ j, j < k → a[j]? = b[j]? := by
  cases h : diffL a b with
  | none =>
    refine .inl ⟨rfl, fun j h1 h2 => ?_⟩
    unfold diffL at h
    rw [List.find?_eq_none] at h
    simpa using h j (List.mem_range.2 (by omega))
  | some k =>
    unfold diffL at h
    rw [List.find?_range_eq_some] at h
    obtain ⟨q1, q2, q3⟩ := h
    have := List.mem_range.1 q2
    exact .inr ⟨k, rfl, by omega, by omega, by simpa using q1, fun j hj => by simpa using q3 j hj⟩
theorem diffL_map {α β : Type} [DecidableEq α] [DecidableEq β] (f : α → β) {a b : List α} (hf : ∀ x ∈ a, ∀ y ∈ b, f x = f y → x = y) : diffL (a.map f) (b.map f) = diffL a b := by
  have inj : ∀ j, j < a.length → j < b.length → ((a.map f)[j]? = (b.map f)[j]? ↔ a[j]? = b[j]?) := fun j h1 h2 => by
    rw [List.getElem?_map, List.getElem?_map, List.getElem?_eq_getElem h1, List.getElem?_eq_getElem h2]
    simp only [Option.map_some, Option.some.injEq]
    exact ⟨fun h => hf _ (List.getElem_mem h1) _ (List.getElem_mem h2) h, fun h => by rw [h]⟩
  rcases diffL_cases a b with ⟨h, h1⟩ | ⟨k, h, h1, h2, h3, h4⟩
  · rw [h]
    refine diffL_none fun j q1 q2 => ?_
    rw [List.length_map] at q1 q2
    exact (inj j q1 q2).2 (h1 j q1 q2)
  · rw [h]
    refine diffL_some (by rw [List.length_map]; exact h1) (by rw [List.length_map]; exact h2) (fun e => h3 ((inj k h1 h2).1 e)) fun j hj => (inj j (by omega) (by omega)).2 (h4 j hj)
/-- The pairs of numbers whose first one is a, m of them. -/
def rowTo (a m : Nat) : List (Nat × Nat) := (List.range m).map fun i => (a, a + 1 + i)
def rowsTo (n a : Nat) : List (Nat × Nat) := (List.range a).flatMap fun x => rowTo x (n - (x + 1))
/-- All pairs of so many. -/
def pairsL (n : Nat) : List (Nat × Nat) := rowsTo n n
theorem rowTo_zero (a : Nat) : rowTo a 0 = [] := rfl
theorem rowTo_succ (a m : Nat) : rowTo a (m + 1) = rowTo a m ++ [(a, a + 1 + m)] := by
  unfold rowTo
  rw [List.range_succ, List.map_append, List.map_singleton]
theorem rowsTo_succ (n a : Nat) : rowsTo n (a + 1) = rowsTo n a ++ rowTo a (n - (a + 1)) := by
  unfold rowsTo
  rw [List.range_succ, List.flatMap_append]
  simp
theorem rowTo_le (a : Nat) {m m' : Nat} (h : m ≤ m') : rowTo a m <+: rowTo a m' := by
  induction m' with
  | zero =>
    obtain rfl : m = 0 := by omega
    exact List.prefix_refl _
  | succ k ih =>
    by_cases e : m = k + 1
    · subst e
      exact List.prefix_refl _
    · exact (ih (by omega)).trans (by rw [rowTo_succ]; exact List.prefix_append _ _)
theorem rowsTo_le (n : Nat) {a a' : Nat} (h : a ≤ a') : rowsTo n a <+: rowsTo n a' := by
  induction a' with
  | zero =>
    obtain rfl : a = 0 := by omega
    exact List.prefix_refl _
  | succ k ih =>
    by_cases e : a = k + 1
    · subst e
      exact List.prefix_refl _
    · exact (ih (by omega)).trans (by rw [rowsTo_succ]; exact List.prefix_append _ _)
theorem pairs_pre {n a m : Nat} (ha : a < n) (hm : m < n - (a + 1)) : (rowsTo n a ++ rowTo a m ++ [(a, a + 1 + m)]) <+: pairsL n := by
  refine List.IsPrefix.trans ?_ (rowsTo_le n (show a + 1 ≤ n by omega))
  rw [rowsTo_succ, List.append_assoc, ← rowTo_succ]
  exact (List.prefix_append_right_inj _).2 (rowTo_le a (by omega))
theorem mem_pairs {n : Nat} {p : Nat × Nat} (h : p ∈ pairsL n) : p.1 < p.2 ∧ p.2 < n := by
  unfold pairsL rowsTo at h
  obtain ⟨x, hx, hp⟩ := List.mem_flatMap.1 h
  have hx := List.mem_range.1 hx
  unfold rowTo at hp
  obtain ⟨i, hi, rfl⟩ := List.mem_map.1 hp
  have hi := List.mem_range.1 hi
  exact ⟨by show x < x + 1 + i; omega, by show x + 1 + i < n; omega⟩
/-- Where two of some lists part. -/
def partAt {α : Type} [DecidableEq α] (ls : List (List α)) (p : Nat × Nat) : Option (Nat × Nat × Nat) := (diffL (ls.getD p.1 []) (ls.getD p.2 [])).map fun k => (p.1, p.2, k)
def partsOf {α : Type} [DecidableEq α] (ls : List (List α)) (l : List (Nat × Nat)) : List (Nat × Nat × Nat) := l.filterMap (partAt ls)
/-- Where some lists part. -/
def partsL {α : Type} [DecidableEq α] (ls : List (List α)) : List (Nat × Nat × Nat) := partsOf ls (pairsL ls.length)
theorem partsOf_append {α : Type} [DecidableEq α] (ls : List (List α)) (l m : List (Nat × Nat)) : partsOf ls (l ++ m) = partsOf ls l ++ partsOf ls m := List.filterMap_append ..
theorem partsOf_none {α : Type} [DecidableEq α] {ls : List (List α)} {p : Nat × Nat} (h : diffL (ls.getD p.1 []) (ls.getD p.2 []) = none) : partsOf ls [p] = [] := by
  unfold partsOf
  rw [List.filterMap_cons_none (by unfold partAt; rw [h]; rfl), List.filterMap_nil]
theorem partsOf_some {α : Type} [DecidableEq α] {ls : List (List α)} {p : Nat × Nat} {k : Nat} (h : diffL (ls.getD p.1 []) (ls.getD p.2 []) = some k) : partsOf ls [p] = [(p.1, p.2, k)] := by
  unfold partsOf
  rw [List.filterMap_cons_some (by unfold partAt; rw [h]; rfl), List.filterMap_nil]
theorem partsOf_pre {α : Type} [DecidableEq α] (ls : List (List α)) {l m : List (Nat × Nat)} (h : l <+: m) : partsOf ls l <+: partsOf ls m := by
  obtain ⟨t, rfl⟩ := h
  rw [partsOf_append]
  exact List.prefix_append _ _
theorem partsOf_len {α : Type} [DecidableEq α] (ls : List (List α)) (l : List (Nat × Nat)) : (partsOf ls l).length ≤ l.length := List.length_filterMap_le ..
theorem rowTo_len (a m : Nat) : (rowTo a m).length = m := by simp [rowTo]
theorem rowsTo_len (n a : Nat) : (rowsTo n a).length ≤ a * n := by
  induction a with
  | zero => simp [rowsTo]
  | succ a ih =>
    rw [rowsTo_succ, List.length_append, rowTo_len, Nat.succ_mul]
    omega
/-- Where something first stands. -/
def idxL {α : Type} [DecidableEq α] (x : α) : List α → Nat
  | [] => 0
  | a :: l => if a = x then 0 else idxL x l + 1
theorem idxL_get {α : Type} [DecidableEq α] {x : α} : ∀ {l : List α}, x ∈ l → l[idxL x l]? = some x
  | a :: l, h => by
    unfold idxL
    by_cases e : a = x
    · rw [if_pos e, e]
      rfl
    · rw [if_neg e, List.getElem?_cons_succ]
      exact idxL_get ((List.mem_cons.1 h).resolve_left fun q => e q.symm)
theorem idxL_in {α : Type} [DecidableEq α] {x : α} (m : List α) : ∀ {l : List α}, x ∈ l → idxL x (l ++ m) = idxL x l
  | a :: l, h => by
    rw [List.cons_append]
    unfold idxL
    by_cases e : a = x
    · rw [if_pos e, if_pos e]
    · rw [if_neg e, if_neg e, idxL_in m ((List.mem_cons.1 h).resolve_left fun q => e q.symm)]
theorem idxL_out {α : Type} [DecidableEq α] {x : α} : ∀ {l : List α}, x ∉ l → idxL x (l ++ [x]) = l.length
  | [], _ => by simp [idxL]
  | a :: l, h => by
    rw [List.cons_append]
    unfold idxL
    rw [if_neg (fun e => h (by rw [e]; exact List.mem_cons_self ..)), idxL_out (fun q => h (List.mem_cons_of_mem _ q)), List.length_cons]
theorem idx_inj {α : Type} [DecidableEq α] {S : List α} {x y : α} (hx : x ∈ S) (hy : y ∈ S) (h : idxL x S = idxL y S) : x = y := by
  have h1 := idxL_get hx
  have h2 := idxL_get hy
  rw [h, h2] at h1
  injection h1 with h1
  exact h1.symm
/-- Rows of numbers that number some lists' entries. -/
def Numbers {α : Type} [DecidableEq α] (S : List α) (ls : List (List α)) (E : List (List Nat)) : Prop := (∀ l ∈ ls, ∀ x ∈ l, x ∈ S) ∧ E = ls.map fun l => l.map fun x => idxL x S
theorem filterMap_same {α β : Type} {f g : α → Option β} : ∀ {l : List α}, (∀ x ∈ l, f x = g x) → l.filterMap f = l.filterMap g
  | [], _ => rfl
  | a :: l, h => by
    rw [List.filterMap_cons, List.filterMap_cons, h a (List.mem_cons_self ..), filterMap_same fun x hx => h x (List.mem_cons_of_mem _ hx)]
theorem Numbers.parts {α : Type} [DecidableEq α] {S : List α} {ls : List (List α)} {E : List (List Nat)} (h : Numbers S ls E) : partsL E = partsL ls := by
  obtain ⟨h1, rfl⟩ := h
  unfold partsL
  rw [List.length_map]
  unfold partsOf
  refine filterMap_same fun p hp => ?_
  obtain ⟨hp1, hp2⟩ := mem_pairs hp
  have get : ∀ a, a < ls.length → (ls.map fun l => l.map fun x => idxL x S).getD a [] = ((ls.getD a []).map fun x => idxL x S) ∧ ls.getD a [] ∈ ls := fun a ha => by
    rw [List.getD_eq_getElem?_getD, List.getElem?_map, List.getD_eq_getElem?_getD, List.getElem?_eq_getElem ha]
    exact ⟨rfl, List.getElem_mem ha⟩
  obtain ⟨e1, m1⟩ := get p.1 (by omega)
  obtain ⟨e2, m2⟩ := get p.2 (by omega)
  unfold partAt
  rw [e1, e2, diffL_map _ fun x hx y hy h => idx_inj (h1 _ m1 x hx) (h1 _ m2 y hy) h]
end Go.Proofs.Ytalacjmcllfdhaa
