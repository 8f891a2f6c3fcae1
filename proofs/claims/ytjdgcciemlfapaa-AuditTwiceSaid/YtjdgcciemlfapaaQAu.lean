/-
  Audit: where lists part, pairs of lists, entries by their numbers: mathematics. No condition.
  Audit: slices of slices of slices of bytes; few; the longest list. In whatever memory. No condition.
  A comparison in a region that draws its order; two texts. No condition.
  Audit: entries by their numbers. In whatever memory. No condition.
  Audit: what wasn't handed in. In whatever memory. No condition.
-/
import Derived.Test.YtjdgcciemlfapaaMath
import Derived.Test.YtjdgcciemlfapaaPackStr
import Derived.Test.YtjdgcciemlfapaaPackOps
import Derived.Test.YtjdgcciemlfapaaRowC
import Derived.Test.YtjdgcciemlfapaaSeqD
import Derived.Test.YtjdgcciemlfapaaMapV
import Derived.Lib.Hide
import Derived.WalkMore
import Derived.Deep.CutRange
import Derived.Deep.RegionLaw
import Derived.Deep.RegionHeld3
import Derived.OwnWalk
import Derived.Great.Walk
import Derived.Stop.BytesEq
import Derived.Maps.AppendAt
import Derived.StringKeys
import Derived.Carry
namespace Go.Proofs.Ytjdgcciemlfapaa

/-- The first place at which two lists part. -/
def diffL {α : Type} [DecidableEq α] (a b : List α) : Option Nat := (List.range (min a.length b.length)).find? fun k => decide (a[k]? ≠ b[k]?)
theorem diffL_some {α : Type} [DecidableEq α] {a b : List α} {k : Nat} (h1 : k < a.length) (h2 : k < b.length) (hd : a[k]? ≠ b[k]?) (hb : ∀ j, j < k → a[j]? = b[j]?) : diffL a b = some k := by
  unfold diffL
  rw [List.find?_range_eq_some]
  refine ⟨by simpa using hd, List.mem_range.2 (by omega), fun j hj => by simpa using hb j hj⟩
theorem diffL_none {α : Type} [DecidableEq α] {a b : List α} (hb : ∀ j, j < a.length → j < b.length → a[j]? = b[j]?) : diffL a b = none := by
  unfold diffL
  rw [List.find?_eq_none]
  intro j hj
  have := List.mem_range.1 hj
  simpa using hb j (by omega) (by omega)
theorem diffL_cases {α : Type} [DecidableEq α] (a b : List α) : (diffL a b = none ∧ ∀ j, j < a.length → j < b.length → a[j]? = b[j]?) ∨ ∃ k, diffL a b = some k ∧ k < a.length ∧ k < b.length ∧ a[k]? ≠ b[k]? ∧ ∀ j, j < k → a[j]? = b[j]? := by
  cases h : diffL a b with
  | none =>
    refine .inl ⟨rfl, fun j h1 h2 => ?_⟩
    unfold diffL at h
    rw [List.find?_eq_none] at h
    simpa using h j (List.mem_range.2 (by omega))
  | some k =>
    unfold diffL at h
    rw [List.find?_range_eq_some] at h
    obtain ⟨q1, q2, q3⟩ := h
    have := List.mem_range.1 q2
    exact .inr ⟨k, rfl, by omega, by omega, by simpa using q1, fun j hj => by simpa using q3 j hj⟩
theorem diffL_map {α β : Type} [DecidableEq α] [DecidableEq β] (f : α → β) {a b : List α} (hf : ∀ x ∈ a, ∀ y ∈ b, f x = f y → x = y) : diffL (a.map f) (b.map f) = diffL a b := by
  have inj : ∀ j, j < a.length → j < b.length → ((a.map f)[j]? = (b.map f)[j]? ↔ a[j]? = b[j]?) := fun j h1 h2 => by
    rw [List.getElem?_map, List.getElem?_map, List.getElem?_eq_getElem h1, List.getElem?_eq_getElem h2]
    simp only [Option.map_some, Option.some.injEq]
    exact ⟨fun h => hf _ (List.getElem_mem h1) _ (List.getElem_mem h2) h, fun h => by rw [h]⟩
  rcases diffL_cases a b with ⟨h, h1⟩ | ⟨k, h, h1, h2, h3, h4⟩
  · rw [h]
    refine diffL_none fun j q1 q2 => ?_
    rw [List.length_map] at q1 q2
    exact (inj j q1 q2).2 (h1 j q1 q2)
  · rw [h]
    refine diffL_some (by rw [List.length_map]; exact h1) (by rw [List.length_map]; exact h2) (fun e => h3 ((inj k h1 h2).1 e)) fun j hj => (inj j (by omega) (by omega)).2 (h4 j hj)
/-- The pairs of numbers whose first one is a, m of them. -/
def rowTo (a m : Nat) : List (Nat × Nat) := (List.range m).map fun i => (a, a + 1 + i)
def rowsTo (n a : Nat) : List (Nat × Nat) := (List.range a).flatMap fun x => rowTo x (n - (x + 1))
/-- All pairs of so many. -/
def pairsL (n : Nat) : List (Nat × Nat) := rowsTo n n
theorem rowTo_zero (a : Nat) : rowTo a 0 = [] := rfl
theorem rowTo_succ (a m : Nat) : rowTo a (m + 1) = rowTo a m ++ [(a, a + 1 + m)] := by
  unfold rowTo
  rw [List.range_succ, List.map_append, List.map_singleton]
theorem rowsTo_succ (n a : Nat) : rowsTo n (a + 1) = rowsTo n a ++ rowTo a (n - (a + 1)) := by
  unfold rowsTo
  rw [List.range_succ, List.flatMap_append]
  simp
theorem rowTo_le (a : Nat) {m m' : Nat} (h : m ≤ m') : rowTo a m <+: rowTo a m' := by
  induction m' with
  | zero =>
    obtain rfl : m = 0 := by omega
    exact List.prefix_refl _
  | succ k ih =>
    by_cases e : m = k + 1
    · subst e
      exact List.prefix_refl _
    · exact (ih (by omega)).trans (by rw [rowTo_succ]; exact List.prefix_append _ _)
theorem rowsTo_le (n : Nat) {a a' : Nat} (h : a ≤ a') : rowsTo n a <+: rowsTo n a' := by
  induction a' with
  | zero =>
    obtain rfl : a = 0 := by omega
    exact List.prefix_refl _
  | succ k ih =>
    by_cases e : a = k + 1
    · subst e
      exact List.prefix_refl _
    · exact (ih (by omega)).trans (by rw [rowsTo_succ]; exact List.prefix_append _ _)
theorem pairs_pre {n a m : Nat} (ha : a < n) (hm : m < n - (a + 1)) : (rowsTo n a ++ rowTo a m ++ [(a, a + 1 + m)]) <+: pairsL n := by
  refine List.IsPrefix.trans ?_ (rowsTo_le n (show a + 1 ≤ n by omega))
  rw [rowsTo_succ, List.append_assoc, ← rowTo_succ]
  exact (List.prefix_append_right_inj _).2 (rowTo_le a (by omega))
theorem mem_pairs {n : Nat} {p : Nat × Nat} (h : p ∈ pairsL n) : p.1 < p.2 ∧ p.2 < n := by
  unfold pairsL rowsTo at h
  obtain ⟨x, hx, hp⟩ := List.mem_flatMap.1 h
  have hx := List.mem_range.1 hx
  unfold rowTo at hp
  obtain ⟨i, hi, rfl⟩ := List.mem_map.1 hp
  have hi := List.mem_range.1 hi
  exact ⟨by show x < x + 1 + i; omega, by show x + 1 + i < n; omega⟩
/-- Where two of some lists part. -/
def partAt {α : Type} [DecidableEq α] (ls : List (List α)) (p : Nat × Nat) : Option (Nat × Nat × Nat) := (diffL (ls.getD p.1 []) (ls.getD p.2 [])).map fun k => (p.1, p.2, k)
def partsOf {α : Type} [DecidableEq α] (ls : List (List α)) (l : List (Nat × Nat)) : List (Nat × Nat × Nat) := l.filterMap (partAt ls)
/-- Where some lists part. -/
def partsL {α : Type} [DecidableEq α] (ls : List (List α)) : List (Nat × Nat × Nat) := partsOf ls (pairsL ls.length)
theorem partsOf_append {α : Type} [DecidableEq α] (ls : List (List α)) (l m : List (Nat × Nat)) : partsOf ls (l ++ m) = partsOf ls l ++ partsOf ls m := List.filterMap_append ..
theorem partsOf_none {α : Type} [DecidableEq α] {ls : List (List α)} {p : Nat × Nat} (h : diffL (ls.getD p.1 []) (ls.getD p.2 []) = none) : partsOf ls [p] = [] := by
  unfold partsOf
  rw [List.filterMap_cons_none (by unfold partAt; rw [h]; rfl), List.filterMap_nil]
theorem partsOf_some {α : Type} [DecidableEq α] {ls : List (List α)} {p : Nat × Nat} {k : Nat} (h : diffL (ls.getD p.1 []) (ls.getD p.2 []) = some k) : partsOf ls [p] = [(p.1, p.2, k)] := by
  unfold partsOf
  rw [List.filterMap_cons_some (by unfold partAt; rw [h]; rfl), List.filterMap_nil]
theorem partsOf_pre {α : Type} [DecidableEq α] (ls : List (List α)) {l m : List (Nat × Nat)} (h : l <+: m) : partsOf ls l <+: partsOf ls m := by
  obtain ⟨t, rfl⟩ := h
  rw [partsOf_append]
  exact List.prefix_append _ _
/-- Where something first stands. -/
def idxL {α : Type} [DecidableEq α] (x : α) : List α → Nat
  | [] => 0
  | a :: l => if a = x then 0 else idxL x l + 1
theorem idxL_get {α : Type} [DecidableEq α] {x : α} : ∀ {l : List α}, x ∈ l → l[idxL x l]? = some x
  | a :: l, h => by
    unfold idxL
    by_cases e : a = x
    · rw [if_pos e, e]
      rfl
    · rw [if_neg e, List.getElem?_cons_succ]
      exact idxL_get ((List.mem_cons.1 h).resolve_left fun q => e q.symm)
theorem idxL_in {α : Type} [DecidableEq α] {x : α} (m : List α) : ∀ {l : List α}, x ∈ l → idxL x (l ++ m) = idxL x l
  | a :: l, h => by
    rw [List.cons_append]
    unfold idxL
    by_cases e : a = x
    · rw [if_pos e, if_pos e]
    · rw [if_neg e, if_neg e, idxL_in m ((List.mem_cons.1 h).resolve_left fun q => e q.symm)]
theorem idxL_out {α : Type} [DecidableEq α] {x : α} : ∀ {l : List α}, x ∉ l → idxL x (l ++ [x]) = l.length
  | [], _ => by simp [idxL]
  | a :: l, h => by
    rw [List.cons_append]
    unfold idxL
    rw [if_neg (fun e => h (by rw [e]; exact List.mem_cons_self ..)), idxL_out (fun q => h (List.mem_cons_of_mem _ q)), List.length_cons]
theorem idx_inj {α : Type} [DecidableEq α] {S : List α} {x y : α} (hx : x ∈ S) (hy : y ∈ S) (h : idxL x S = idxL y S) : x = y := by
  have h1 := idxL_get hx
  have h2 := idxL_get hy
  rw [h, h2] at h1
  injection h1 with h1
  exact h1.symm
/-- Rows of numbers that number some lists' entries. -/
def Numbers {α : Type} [DecidableEq α] (S : List α) (ls : List (List α)) (E : List (List Nat)) : Prop := (∀ l ∈ ls, ∀ x ∈ l, x ∈ S) ∧ E = ls.map fun l => l.map fun x => idxL x S
theorem filterMap_same {α β : Type} {f g : α → Option β} : ∀ {l : List α}, (∀ x ∈ l, f x = g x) → l.filterMap f = l.filterMap g
  | [], _ => rfl
  | a :: l, h => by
    rw [List.filterMap_cons, List.filterMap_cons, h a (List.mem_cons_self ..), filterMap_same fun x hx => h x (List.mem_cons_of_mem _ hx)]
theorem Numbers.parts {α : Type} [DecidableEq α] {S : List α} {ls : List (List α)} {E : List (List Nat)} (h : Numbers S ls E) : partsL E = partsL ls := by
  obtain ⟨h1, rfl⟩ := h
  unfold partsL
  rw [List.length_map]
  unfold partsOf
  refine filterMap_same fun p hp => ?_
  obtain ⟨hp1, hp2⟩ := mem_pairs hp
  have get : ∀ a, a < ls.length → (ls.map fun l => l.map fun x => idxL x S).getD a [] = ((ls.getD a []).map fun x => idxL x S) ∧ ls.getD a [] ∈ ls := fun a ha => by
    rw [List.getD_eq_getElem?_getD, List.getElem?_map, List.getD_eq_getElem?_getD, List.getElem?_eq_getElem ha]
    exact ⟨rfl, List.getElem_mem ha⟩
  obtain ⟨e1, m1⟩ := get p.1 (by omega)
  obtain ⟨e2, m2⟩ := get p.2 (by omega)
  unfold partAt
  rw [e1, e2, diffL_map _ fun x hx y hy h => idx_inj (h1 _ m1 x hx) (h1 _ m2 y hy) h]
end Go.Proofs.Ytjdgcciemlfapaa
namespace Go.Proofs.Ytjdgcciemlfapaa
open Go Go.RowKit Go.Shelf

/-- A slice of slices of slices of bytes. -/
def RdPP (W : World) (ok : Nat → Prop) (A : Option Addr) (L : List (List (List UInt8))) : Prop :=
  ∀ k, k < L.length → ∃ (ad : Addr) (A' : Option Addr) (c' : Nat), A = some ad ∧ ok ad.block ∧ W.cell? (ad.add k) = some (.slice A' (L.getD k []).length c') ∧ (L.getD k []).length ≤ 140737488351232 ∧ RdP W ok A' (L.getD k [])
theorem RdP.at {W : World} {ok : Nat → Prop} {A : Option Addr} {l : List (List UInt8)} (h : RdP W ok A l) {k : Nat} (hk : k < l.length) : ∃ (ad : Addr) (A' : Option Addr) (c' : Nat), A = some ad ∧ ok ad.block ∧ W.cell? (ad.add k) = some (.slice A' (l.getD k []).length c') ∧ RdB W ok (.slice A' (l.getD k []).length c') (l.getD k []) ∧ (l.getD k []).length ≤ 140737488351232 := by
  obtain ⟨ad, v, h1, h2, h3, h4⟩ := h k hk
  obtain ⟨A', c', rfl, h5, h6, h7⟩ := id h4
  exact ⟨ad, A', c', h1, h2, h3, h4, h6⟩
theorem getD_take {α : Type} {l : List α} {k : Nat} (d : α) (hk : k < l.length) : l.take (k + 1) = l.take k ++ [l.getD k d] := by
  rw [List.take_succ_eq_append_getElem hk, List.getD_eq_getElem?_getD, List.getElem?_eq_getElem hk]
  rfl
theorem getD_mem {α : Type} {l : List α} {k : Nat} (d : α) (hk : k < l.length) : l.getD k d ∈ l := by
  rw [List.getD_eq_getElem?_getD, List.getElem?_eq_getElem hk]
  exact List.getElem_mem hk
theorem getD_at {α : Type} {l : List α} {k : Nat} (d : α) (hk : k < l.length) : l[k]? = some (l.getD k d) := by
  rw [List.getD_eq_getElem?_getD, List.getElem?_eq_getElem hk]
  rfl
/-- Are lists of a size with which this is tried? -/
def okL (l : List (List UInt8)) : Prop := l.length ≤ 12 ∧ ∀ b ∈ l, b.length ≤ 1000
def FewL (L : List (List (List UInt8))) : Prop := L.length ≤ 8 ∧ ∀ l ∈ L, okL l
set_option maxRecDepth 100000 in
set_option maxHeartbeats 4000000 in
theorem few_any (A : Option Addr) (c : Nat) (L : List (List (List UInt8))) (ok : Nat → Prop) (w : World) (hr : RdPP w ok A L) (hm : L.length ≤ 140737488351232) :
    Calls Try.prog 13 #[.slice A L.length c] w fun e w' => ∃ b, e = .returned (.bool b) ∧ (b = true ↔ FewL L) ∧ w = w' := by
  have HR := Lib.hid hr
  obtain ⟨n, hn⟩ : ∃ n, L.length = n := ⟨_, rfl⟩
  have HN := Lib.hid hn
  rw [hn] at hm ⊢
  clear hr hn
  by_cases h8 : 8 < n
  · have e1 : decide ((n : Int) > 8) = true := decide_eq_true (by omega)
    go_enter Try.func13, Try.ntmps13
    go_wp2
    go_ret
    exact ⟨false, rfl, ⟨fun h => (by cases h), fun h => by have := h.1; rw [HN.out] at this; omega⟩, rfl⟩
  · have e1 : decide ((n : Int) > 8) = false := decide_eq_false (by omega)
    go_enter Try.func13, Try.ntmps13
    go_wp2_with fail
    go_loopw [12] (fun i wr => ∃ k : Nat, k ≤ n ∧ i = .int .i64 (k : Int) ∧ w = wr ∧ ∀ l ∈ L.take k, okL l) (fun i _ => n - (intOf i).toNat)
    case atStart => exact ⟨0, Nat.zero_le _, rfl, rfl, by simp⟩
    case round =>
      obtain ⟨k, hk, rfl, rfl, hok⟩ := hrel
      by_cases hkn : k < n
      · have hki : (k : Int) < (n : Int) := by omega
        obtain ⟨ad, A', c', rfl, _, hcell, hlb, hrd⟩ := HR.out k (by rw [HN.out]; exact hkn)
        have htk := getD_take (l := L) [] (show k < L.length by rw [HN.out]; exact hkn)
        have hmem := getD_mem (l := L) [] (show k < L.length by rw [HN.out]; exact hkn)
        obtain ⟨l, hl⟩ : ∃ l, L.getD k [] = l := ⟨_, rfl⟩
        rw [hl] at hcell hlb hrd htk hmem
        have HRD := Lib.hid hrd
        have HTK := Lib.hid (And.intro htk (And.intro hmem hok))
        obtain ⟨m, hlm⟩ : ∃ m, l.length = m := ⟨_, rfl⟩
        rw [hlm] at hcell hlb
        have HM := Lib.hid hlm
        clear hrd htk hmem hok hl hlm
        by_cases h12 : 12 < m
        · have e2 : decide ((m : Int) > 12) = true := decide_eq_true (by omega)
          go_wp2
          go_ret
          exact ⟨false, rfl, ⟨fun h => (by cases h), fun h => by have := (h.2 l HTK.out.2.1).1; rw [HM.out] at this; omega⟩, rfl⟩
        · have e2 : decide ((m : Int) > 12) = false := decide_eq_false (by omega)
          go_wp2_with fail
          go_loopw [21] (fun i wr => ∃ q : Nat, q ≤ m ∧ i = .int .i64 (q : Int) ∧ w = wr ∧ ∀ b ∈ l.take q, b.length ≤ 1000) (fun i _ => m - (intOf i).toNat)
          case atStart => exact ⟨0, Nat.zero_le _, rfl, rfl, by simp⟩
          case round =>
            obtain ⟨q, hq, rfl, rfl, hob⟩ := hrel
            by_cases hqm : q < m
            · have hqi : (q : Int) < (m : Int) := by omega
              obtain ⟨ad2, A2, c2, rfl, _, hcell2, _, hlb2⟩ := HRD.out.at (show q < l.length by rw [HM.out]; exact hqm)
              have htk := getD_take (l := l) [] (show q < l.length by rw [HM.out]; exact hqm)
              have hmem := getD_mem (l := l) [] (show q < l.length by rw [HM.out]; exact hqm)
              obtain ⟨b, hb⟩ : ∃ b, l.getD q [] = b := ⟨_, rfl⟩
              rw [hb] at hcell2 hlb2 htk hmem
              have HTB := Lib.hid (And.intro htk (And.intro hmem hob))
              obtain ⟨z, hz⟩ : ∃ z, b.length = z := ⟨_, rfl⟩
              rw [hz] at hcell2 hlb2
              have HZ := Lib.hid hz
              clear hb hz htk hmem hob
              by_cases h1000 : 1000 < z
              · have e3 : decide ((z : Int) > 1000) = true := decide_eq_true (by omega)
                go_wp2
                go_ret
                exact ⟨false, rfl, ⟨fun h => (by cases h), fun h => by have := (h.2 l HTK.out.2.1).2 b HTB.out.2.1; rw [HZ.out] at this; omega⟩, rfl⟩
              · have e3 : decide ((z : Int) > 1000) = false := decide_eq_false (by omega)
                go_wp2
                go_roundw
                · exact ⟨q + 1, by omega, by go_num, by simp, fun x hx => by
                    rw [HTB.out.1] at hx
                    rcases List.mem_append.1 hx with hx | hx
                    · exact HTB.out.2.2 x hx
                    · rw [List.mem_singleton.1 hx, HZ.out]
                      omega⟩
                · simp [intOf]
                  omega
            · obtain rfl : q = m := by omega
              have HOB : Hid (∀ b ∈ l, b.length ≤ 1000) := Lib.hid (by rw [← HM.out, List.take_length] at hob; exact hob)
              clear hob
              go_wp2
              go_roundw
              · exact ⟨k + 1, by omega, by go_num, by simp, fun x hx => by
                  rw [HTK.out.1] at hx
                  rcases List.mem_append.1 hx with hx | hx
                  · exact HTK.out.2.2 x hx
                  · rw [List.mem_singleton.1 hx]
                    exact ⟨by rw [HM.out]; omega, HOB.out⟩⟩
              · simp [intOf]
                omega
      · obtain rfl : k = n := by omega
        have HOK : Hid (FewL L) := Lib.hid (by rw [← HN.out, List.take_length] at hok; exact ⟨by rw [HN.out]; omega, hok⟩)
        clear hok
        go_wp2
        go_ret
        exact ⟨true, rfl, ⟨fun _ => HOK.out, fun _ => rfl⟩, rfl⟩
set_option maxRecDepth 100000 in
set_option maxHeartbeats 4000000 in
/-- The longest list: as long as any. -/
theorem longest_any (A : Option Addr) (c : Nat) (L : List (List (List UInt8))) (ok : Nat → Prop) (w : World) (hr : RdPP w ok A L) (hm : L.length ≤ 140737488351232) :
    Calls Try.prog 28 #[.slice A L.length c] w fun e w' => ∃ (A' : Option Addr) (q c' : Nat), e = .returned (.slice A' q c') ∧ (∀ l ∈ L, l.length ≤ q) ∧ (q = 0 ∨ ∃ l ∈ L, l.length = q) ∧ w = w' := by
  have HR := Lib.hid hr
  obtain ⟨n, hn⟩ : ∃ n, L.length = n := ⟨_, rfl⟩
  have HN := Lib.hid hn
  rw [hn] at hm ⊢
  clear hr hn
  go_enter Try.func28, Try.ntmps28
  go_wp2_with fail
  go_loopw [3, 8] (fun v i wr => ∃ (k q : Nat) (A' : Option Addr) (c' : Nat), k ≤ n ∧ v = .slice A' q c' ∧ i = .int .i64 (k : Int) ∧ w = wr ∧ q ≤ 140737488351232 ∧ (∀ l ∈ L.take k, l.length ≤ q) ∧ (q = 0 ∨ ∃ l ∈ L, l.length = q)) (fun _ i _ => n - (intOf i).toNat)
  case atStart => exact ⟨0, 0, none, 0, Nat.zero_le _, rfl, rfl, rfl, by omega, by simp, .inl rfl⟩
  case round =>
    obtain ⟨k, q, Aq, cq, hk, rfl, rfl, rfl, hqb, hall, hin⟩ := hrel
    by_cases hkn : k < n
    · have hki : (k : Int) < (n : Int) := by omega
      obtain ⟨ad, A', c', rfl, _, hcell, hlb, hrd⟩ := HR.out k (by rw [HN.out]; exact hkn)
      have htk := getD_take (l := L) [] (show k < L.length by rw [HN.out]; exact hkn)
      have hmem := getD_mem (l := L) [] (show k < L.length by rw [HN.out]; exact hkn)
      obtain ⟨l, hl⟩ : ∃ l, L.getD k [] = l := ⟨_, rfl⟩
      rw [hl] at hcell hlb htk hmem
      obtain ⟨m, hlm⟩ : ∃ m, l.length = m := ⟨_, rfl⟩
      rw [hlm] at hcell hlb
      have HT := Lib.hid (And.intro htk (And.intro hmem (And.intro hall (And.intro hin hlm))))
      clear hrd htk hmem hall hin hl hlm
      by_cases hk0 : k = 0
      · have e0 : ((k : Int) == 0) = true := by rw [beq_iff_eq]; omega
        have HK0 := Lib.hid hk0
        clear hk0
        go_wp2
        go_roundw
        · exact ⟨k + 1, m, A', c', by omega, rfl, by go_num, by simp, hlb, fun x hx => by
            rw [HT.out.1, HK0.out] at hx
            rcases List.mem_append.1 hx with hx | hx
            · simp at hx
            · rw [List.mem_singleton.1 hx, HT.out.2.2.2.2]
              omega, .inr ⟨l, HT.out.2.1, HT.out.2.2.2.2⟩⟩
        · simp [intOf]
          omega
      · have e0 : ((k : Int) == 0) = false := by rw [beq_eq_false_iff_ne]; omega
        by_cases hgt : q < m
        · have e1 : decide ((m : Int) > (q : Int)) = true := decide_eq_true (by omega)
          have e2 : decide (m > q) = true := decide_eq_true hgt
          go_wp2
          go_roundw
          · exact ⟨k + 1, m, A', c', by omega, rfl, by go_num, by simp, hlb, fun x hx => by
              rw [HT.out.1] at hx
              rcases List.mem_append.1 hx with hx | hx
              · have := HT.out.2.2.1 x hx
                omega
              · rw [List.mem_singleton.1 hx, HT.out.2.2.2.2]
                omega, .inr ⟨l, HT.out.2.1, HT.out.2.2.2.2⟩⟩
          · simp [intOf]
            omega
        · have e1 : decide ((m : Int) > (q : Int)) = false := decide_eq_false (by omega)
          have e2 : decide (m > q) = false := decide_eq_false hgt
          go_wp2
          go_roundw
          · exact ⟨k + 1, q, Aq, cq, by omega, rfl, by go_num, by simp, hqb, fun x hx => by
              rw [HT.out.1] at hx
              rcases List.mem_append.1 hx with hx | hx
              · exact HT.out.2.2.1 x hx
              · rw [List.mem_singleton.1 hx, HT.out.2.2.2.2]
                omega, HT.out.2.2.2.1⟩
          · simp [intOf]
            omega
    · obtain rfl : k = n := by omega
      have HA := Lib.hid (show ∀ l ∈ L, l.length ≤ q by rw [← HN.out, List.take_length] at hall; exact hall)
      have HI := Lib.hid hin
      clear hall hin
      go_wp2
      go_ret
      exact ⟨Aq, q, cq, rfl, HA.out, HI.out, rfl⟩
end Go.Proofs.Ytjdgcciemlfapaa
namespace Go.Proofs.Ytjdgcciemlfapaa
open Go Go.RowKit Go.Shelf

theorem yields_binA {P : Program} {ops : Array Oper} {S : World → Prop} {op : Oper} {a : Act} (hw : Region.wanted op (yielded ops a.tmps) = true) (bop : BinOp) (t rt : TypeId) (x y : Operand) (ho : op.op = .binOp bop t x y rt)
    (vx vy : Value) (hx : a.eval x = vx) (hy : a.eval y = vy) (v : Value) (hg : ∀ w, (eqGuard bop t x y vx vy).run P w = .ok () w) (hrun : ∀ w, (binOp bop t vx vy).run P w = .ok v w) : YieldsIf P ops S op v a :=
  .inl ⟨hw, fun w _ => by
    unfold execOp
    simp only [ho, hx, hy, Sem.run_bind, hg, hrun, Sem.run_pure, Result.andThen_ok]⟩
theorem eql_strA (a b : List UInt8) (w : World) : (binOp .eql 9 (.string ⟨a.toArray⟩) (.string ⟨b.toArray⟩)).run Try.prog w = .ok (.bool (a == b)) w := by
  show (Op.stringOp .eql ⟨a.toArray⟩ ⟨b.toArray⟩).run Try.prog w = _
  simp [Op.stringOp, ByteArray.toList_eq]
theorem rowTo_next {a b : Nat} (h : a + 1 ≤ b) : rowTo a (b + 1 - (a + 1)) = rowTo a (b - (a + 1)) ++ [(a, b)] := by
  rw [show b + 1 - (a + 1) = (b - (a + 1)) + 1 by omega, rowTo_succ, show a + 1 + (b - (a + 1)) = b by omega]
end Go.Proofs.Ytjdgcciemlfapaa
namespace Go.Proofs.Ytjdgcciemlfapaa
open Go Go.RowKit Go.Shelf Go.Maps

/-! Texts' numbers as a map. -/
theorem str_law : Keyed Try.prog 9 := string_keyed Try.underlying9
theorem key_str {k : List UInt8} (h : k.length ≤ 1000) : keyOf Try.prog 9 (.string ⟨k.toArray⟩) = some (.string k) := by
  have := WideMaps.keyOf_string_mk (P := Try.prog) Try.underlying9 (s := ⟨k.toArray⟩) (by rw [ba_len]; unfold maxLen; omega)
  simpa using this
/-- Block b is a map from these texts to their numbers. -/
def NumM (W : World) (b : Nat) (S : List (List UInt8)) : Prop :=
  ∃ D, W.ownsMap Try.prog 9 holdV b S.length D ∧ size D = S.length ∧ ∀ k : List UInt8, has D (.string k) = decide (k ∈ S) ∧ ∀ z, D.atKey (.string k) z = if k ∈ S then .held (.int .i64 (idxL k S : Int)) else z
theorem numM_made (w : World) : NumM (w.alloc (.map #[] 0)) w.heap.size [] :=
  ⟨_, World.ownsMap_made w _ _ _, by simp [size], fun i => ⟨by simp [has], fun z => by simp [DataW.atKey]⟩⟩
theorem int_zeroA (w : World) : (zeroValue 3).run Try.prog w = .ok (.int .i64 0) w := by kernel_rfl
section
variable {W W' : World} {b : Nat} {S : List (List UInt8)}
theorem NumM.lt (h : NumM W b S) : b < W.heap.size := by
  obtain ⟨D, h, _⟩ := h
  exact h.lt
theorem NumM.same (h : NumM W b S) (hb : W'.heap[b]? = W.heap[b]?) : NumM W' b S := by
  obtain ⟨D, ⟨es, clock, h1, h2⟩, h3⟩ := h
  exact ⟨D, ⟨es, clock, hb.trans h1, h2⟩, h3⟩
theorem NumM.look (h : NumM W b S) {k : List UInt8} (hk : k.length ≤ 1000) : (Instr.lookup 116 (.map (some b)) (.string ⟨k.toArray⟩) true).run Try.prog W = .ok (.tuple #[.int .i64 (if k ∈ S then (idxL k S : Int) else 0), .bool (decide (k ∈ S))]) W := by
  obtain ⟨D, h1, h2, h3⟩ := h
  obtain ⟨v, ps, hrun, hv⟩ := h1.look_ok str_law Try.underlying116 (int_zeroA W) (zd := .held (.int .i64 0)) (zp := []) rfl (key_str hk)
  rw [(h3 k).2, holdV] at hv
  rw [hrun, (h3 k).1]
  by_cases hs : k ∈ S
  · rw [if_pos hs] at hv ⊢
    simp only [Option.some.injEq, Prod.mk.injEq, DataW.held.injEq] at hv
    rw [hv.1]
  · rw [if_neg hs] at hv ⊢
    simp only [Option.some.injEq, Prod.mk.injEq, DataW.held.injEq] at hv
    rw [hv.1]
theorem NumM.store (h : NumM W b S) {k : List UInt8} (hk : k.length ≤ 1000) (hn : k ∉ S) (hl : S.length < maxLen) : ∃ w', (Instr.mapUpdate 116 (.map (some b)) (.string ⟨k.toArray⟩) (.int .i64 (S.length : Int))).run Try.prog W = .ok () w' ∧ NumM w' b (S ++ [k]) ∧ W.mapTurned w' b := by
  obtain ⟨D, h1, h2, h3⟩ := h
  obtain ⟨w', hrun, q2, q3⟩ := h1.store str_law Try.underlying116 hl (d := .held (.int .i64 (S.length : Int))) (ps := []) (key_str hk) rfl
  have hlen : (S ++ [k]).length = S.length + 1 := by simp
  refine ⟨w', hrun, ⟨_, by rw [hlen]; exact q2, ?_, fun j => ?_⟩, q3⟩
  · rw [size_put (h1.tidy str_law), (h3 k).1, decide_eq_false hn, hlen, h2]
    simp
  · by_cases hjk : j = k
    · subst hjk
      rw [has_put_same h1.isMap (str_law.key (key_str hk)) _]
      exact ⟨by simp, fun z => by rw [atKey_put_same h1.isMap (str_law.key (key_str hk)) _ _, if_pos (by simp), idxL_out hn]⟩
    · have hne : (Lit.string j) ≠ (Lit.string k) := fun e => hjk (by injection e)
      rw [has_put_other hne, (h3 j).1]
      refine ⟨decide_eq_decide.2 (by simp [hjk]), fun z => ?_⟩
      rw [atKey_put_other hne, (h3 j).2]
      by_cases hs : j ∈ S
      · rw [if_pos hs, if_pos (by simp [hs]), idxL_in _ hs]
      · rw [if_neg hs, if_neg (by simp [hs, hjk])]
end
section
variable {ops : Array Oper} {rest : List Oper} {o : Oper} {a : Act} {w : World} {Q : Exit → Act → World → Prop} {b : Nat} {S : List (List UInt8)}
theorem wpList_num_look (hg : o.guard = none) (m x : Operand) (hop : o.op = Op.lookup 116 m x true) (hm : a.eval m = .map (some b)) (h : NumM w b S) (k : List UInt8) (hx : a.eval x = .string ⟨k.toArray⟩) (hk : k.length ≤ 1000) (hK : wpList Try.prog ops Q rest (a.put o.dst (.tuple #[.int .i64 (if k ∈ S then (idxL k S : Int) else 0), .bool (decide (k ∈ S))])) w) : wpList Try.prog ops Q (o :: rest) a w := by
  refine wpList_plain hg fun K hK' => ?_
  have hrun := h.look hk
  unfold Oper.wp
  simp [execOp, hop, hm, hx, hrun, Result.andThen]
  exact hK' _ _ hK
theorem wpList_num_store (hg : o.guard = none) (m x v : Operand) (hop : o.op = Op.mapUpdate 116 m x v) (hm : a.eval m = .map (some b)) (h : NumM w b S) (k : List UInt8) (hx : a.eval x = .string ⟨k.toArray⟩) (hv : a.eval v = .int .i64 (S.length : Int)) (hk : k.length ≤ 1000) (hn : k ∉ S) (hl : S.length < maxLen)
    (hK : ∀ w', NumM w' b (S ++ [k]) → w.mapTurned w' b → wpList Try.prog ops Q rest (a.put o.dst undef) w') : wpList Try.prog ops Q (o :: rest) a w := by
  refine wpList_plain hg fun K' hK' => ?_
  obtain ⟨w', hrun, r1, r2⟩ := h.store hk hn hl
  unfold Oper.wp
  simp [execOp, hop, hm, hx, hv, hrun, Result.andThen]
  exact hK' _ _ (hK w' r1 r2)
theorem wpList_num_len (hg : o.guard = none) (m : Operand) (hop : o.op = Op.call { callee := Callee.builtin Builtin.len, args := #[m], argTypes := #[116] }) (hm : a.eval m = .map (some b)) (h : NumM w b S) (hK : wpList Try.prog ops Q rest (a.put o.dst (.int .i64 (S.length : Int))) w) : wpList Try.prog ops Q (o :: rest) a w := by
  obtain ⟨D, h1, h2, _⟩ := h
  refine wpList_len_own w hg m 116 hop 9 3 Try.underlying116 holdV b S.length D hm h1 ?_
  rw [h2]
  exact hK
end
theorem below_turnA {B : Nat} {S : Nat → Prop} {w0 W W' : World} (hb : Below B w0 W) (hB : B ≤ w0.heap.size) (ht : Turn S W W') (hs : ∀ i, S i → B ≤ i) : Below B w0 W' :=
  hb.trans (ht.below (Nat.le_trans hB hb.size) (fun i hi h => by have := hs i h; omega))
theorem turn_map {w w' : World} {b : Nat} (h : w.mapTurned w' b) : Turn (fun i => i = b) w w' :=
  ⟨(turned_rest h).1, (turned_rest h).2.1, (turned_rest h).2.2, by rw [turned_size h]; exact Nat.le_refl _, fun i _ hn => turned_other h hn⟩
/-! Rows of numbers. -/
def numC (l : List Nat) : List (List Value) := l.map fun (x : Nat) => [.int .i64 (x : Int)]
theorem numC_els (l : List Nat) : ElsC 1 (numC l) := fun x hx => by
  obtain ⟨p, _, rfl⟩ := List.mem_map.1 hx
  exact ⟨rfl, fun u hu => by
    rw [List.mem_singleton] at hu
    subst hu
    rfl⟩
theorem numC_append (a b : List Nat) : numC (a ++ b) = numC a ++ numC b := by unfold numC; exact List.map_append
theorem numC_length (l : List Nat) : (numC l).length = l.length := by unfold numC; exact List.length_map _
theorem elI : ElC Try.prog 3 86 1 8 := ⟨Try.underlying86, by kernel_rfl, by omega, by omega⟩
/-- A row of numbers. -/
def RdZ (W : World) (ok : Nat → Prop) (v : Value) (l : List Nat) : Prop := RdC 1 W ok v (numC l)
theorem RdZ.at {W : World} {ok : Nat → Prop} {v : Value} {l : List Nat} (h : RdZ W ok v l) : ∃ A c, v = .slice A l.length c ∧ ∀ (k x : Nat), l[k]? = some x → ∃ ad : Addr, A = some ad ∧ ok ad.block ∧ W.cell? (ad.add k) = some (.int .i64 (x : Int)) := by
  obtain ⟨h0, A, c, h1, h2, h3, h4⟩ := h
  rw [numC_length] at h1 h4
  refine ⟨A, c, h1, fun k x hk => ?_⟩
  obtain ⟨ad, q1, q2, q3⟩ := h4 (by have := (List.getElem?_eq_some_iff.1 hk).1; omega)
  have := q3 k [.int .i64 (x : Int)] (by unfold numC; rw [List.getElem?_map, hk]; rfl) 0 (by omega)
  rw [Nat.one_mul, Nat.add_zero] at this
  exact ⟨ad, q1, q2, this⟩
def updF (f : Nat → Value) (i : Nat) (v : Value) : Nat → Value := fun j => if j = i then v else f j
theorem run_mk_rows (n : Nat) (hn : n ≤ 1000) (w : World) : (Instr.makeSlice 97 (.int .i64 (n : Int)) (.int .i64 (n : Int))).run Try.prog w = .ok (.slice (some ⟨w.heap.size, 0, none⟩) n n) (w.alloc (.cells (arr n fun _ => .slice none 0 0) 86)) := by
  have hinfo : (Try.prog.info? 86).map (fun i => (i.zero, i.size, i.bytes)) = some (some (.slice none 0 0), 1, 24) := by kernel_rfl
  obtain ⟨i0, hi, hz0, hz1, hz2⟩ := info_parts hinfo
  have h := run_make (P := Try.prog) w 97 86 i0 (.slice none 0 0) Try.underlying97 hi hz0 .i64 .i64 n n (by omega) (Int.le_refl _) (by rw [hz2]; omega) (by omega)
  simp only [Int.toNat_natCast] at h
  rw [h]
  have e : madeCells (Value.slice none 0 0).cells (n * i0.size) = arr n fun _ => .slice none 0 0 := by
    rw [hz1, Nat.mul_one]
    refine arr_of n _ _ (by simp [size_madeCells]) (fun i hi => ?_)
    have := congrArg (fun l : List Value => l[i]?) (toList_madeCells_one (Value.slice none 0 0) n)
    simp only [Array.getElem?_toList] at this
    show (madeCells #[Value.slice none 0 0] n)[i]? = _
    rw [this]
    simp [hi]
  rw [e]
/-- Within a list: its first k entries have their numbers. -/
structure NumI (w : World) (B : Nat) (L : List (List (List UInt8))) (n : Nat) (S : List (List UInt8)) (i k z : Nat) (f : Nat → Value) (W : World) : Prop where
  m : NumM W w.heap.size S
  g : Blk W (w.heap.size + 1) 86 (arr n f)
  done : ∀ j, j < i → RdZ W (fun b => w.heap.size + 1 < b ∧ b < B) (f j) ((L.getD j []).map fun x => idxL x S)
  cur : W.ownsRow B 3 1 (f i) k (numC (((L.getD i []).take k).map fun x => idxL x S)).flatten
  later : ∀ j, i < j → f j = .slice none 0 0
  mem : ∀ j, j < i → ∀ x ∈ L.getD j [], x ∈ S
  memc : ∀ x ∈ (L.getD i []).take k, x ∈ S
  size : S.length ≤ z
  base : w.heap.size + 2 ≤ B ∧ B ≤ W.heap.size
  old : Below w.heap.size w W
section
variable {w W W' : World} {B n i k z : Nat} {L : List (List (List UInt8))} {S : List (List UInt8)} {f : Nat → Value}
theorem NumI.below (h : NumI w B L n S i k z f W) (hb : Below W.heap.size W W') : NumI w B L n S i k z f W' :=
  ⟨h.m.same (hb.block _ h.m.lt), h.g.below hb h.g.lt, fun j hj => (h.done j hj).kept fun a _x ha hx => (hb.cell (p := a) (Nat.lt_of_lt_of_le ha.2 h.base.2)).trans hx, ownsRow_kept h.cur hb, h.later, h.mem, h.memc, h.size, ⟨h.base.1, Nat.le_trans h.base.2 hb.size⟩, h.old.trans (hb.mono h.old.size)⟩
theorem map_add {l : List (List UInt8)} {x : List UInt8} (h : ∀ y ∈ l, y ∈ S) : (l.map fun y => idxL y (S ++ [x])) = l.map fun y => idxL y S := List.map_congr_left fun y hy => idxL_in _ (h y hy)
/-- A key more. -/
theorem NumI.put {x : List UInt8} (h : NumI w B L n S i k z f W) (hm : NumM W' w.heap.size (S ++ [x])) (ht : W.mapTurned W' w.heap.size) : NumI w B L n (S ++ [x]) i k (z + 1) f W' := by
  have tn := turn_map ht
  have hb := h.base
  refine ⟨hm, tn.blk h.g (by omega), fun j hj => ?_, ?_, h.later, fun j hj y hy => List.mem_append_left _ (h.mem j hj y hy), fun y hy => List.mem_append_left _ (h.memc y hy), by have := h.size; rw [List.length_append, List.length_singleton]; omega, ⟨hb.1, Nat.le_trans hb.2 tn.size⟩, below_turnA h.old (Nat.le_refl _) tn fun q hq => by omega⟩
  · rw [map_add (h.mem j hj)]
    exact (h.done j hj).kept fun a u ha hu => tn.cell hu (by have := ha.1; omega)
  · rw [map_add h.memc]
    exact tn.own h.cur fun q hq e => by
      have := (h.cur.lt q hq).1
      omega
theorem NumI.more (h : NumI w B L n S i k z f W) {z' : Nat} (hz : z ≤ z') : NumI w B L n S i k z' f W := ⟨h.m, h.g, h.done, h.cur, h.later, h.mem, h.memc, Nat.le_trans h.size hz, h.base, h.old⟩
/-- A number more. -/
theorem NumI.add {x : List UInt8} (h : NumI w B L n S i k z f W) (hin : i < n) (hx : (L.getD i [])[k]? = some x) (hS : x ∈ S) (hk : k ≤ 1000) :
    ∃ Av cv w', (Builtin.append_ #[86, 86] 86 #[f i, .slice (some ⟨W.heap.size, 0, none⟩) 1 1]).run Try.prog (W.alloc (.cells #[.int .i64 (idxL x S : Int)] 3)) = .ok (.slice Av (k + 1) cv) w' ∧
      w'.cell? ⟨w.heap.size + 1, i, none⟩ = some (f i) ∧ w'.frozen? ⟨w.heap.size + 1, i, none⟩ = false ∧ NumI w B L n S i (k + 1) z (updF f i (.slice Av (k + 1) cv)) (w'.setCell ⟨w.heap.size + 1, i, none⟩ (.slice Av (k + 1) cv)) := by
  obtain ⟨W1, hW1⟩ : ∃ z, W.alloc (.cells #[.int .i64 (idxL x S : Int)] 3) = z := ⟨_, rfl⟩
  have hb : Below W.heap.size W W1 := by rw [← hW1]; exact (Below.refl _ _).alloc (Nat.le_refl _) _
  have hr : RdC 1 W1 (fun b => b = W.heap.size) (.slice (some ⟨W.heap.size, 0, none⟩) 1 1) [[.int .i64 (idxL x S : Int)]] := by
    rw [← hW1]
    exact rdC_one (Blk.new W 3 #[.int .i64 (idxL x S : Int)]) (numC_els [idxL x S])
  rw [hW1]
  have h1 := h.below hb
  have hB1 := h1.base
  obtain ⟨v', w', hrun, q1, q2, q3⟩ := app_own elI hB1.2 h1.cur hr (by omega)
  obtain ⟨Av, cv, hv, _⟩ := own_len q1
  rw [hv] at hrun q1 q3
  clear hv
  have hlo := fun g hg => (h1.cur.lt g hg).1
  have tn : Turn (fun b => (f i).ownBlock = some b) W1 w' := (Turn.refl _ _).grown q2 fun b hb _ => hb
  have kg := tn.blk h1.g fun e => by have := hlo _ e; omega
  have ts : Turn (fun b => b = w.heap.size + 1) w' (w'.setCell ⟨w.heap.size + 1, i, none⟩ (.slice Av (k + 1) cv)) := Turn.setCell (S := fun b => b = w.heap.size + 1) (Turn.refl _ _) (p := ⟨w.heap.size + 1, i, none⟩) (fun _ => rfl) _
  have hv' : ∀ g, (Value.slice Av (k + 1) cv).ownBlock = some g → B ≤ g := fun g hg => by
    rcases q3 with e | e
    · exact hlo g (by rw [← e]; exact hg)
    · rw [e] at hg
      injection hg with hg
      omega
  have htk : (L.getD i []).take (k + 1) = (L.getD i []).take k ++ [x] := by
    have hl := (List.getElem?_eq_some_iff.1 hx).1
    rw [List.take_succ_eq_append_getElem hl, (List.getElem?_eq_some_iff.1 hx).2]
  refine ⟨Av, cv, w', hrun, by rw [kg.cell, arr_get, if_pos hin], kg.frozen i, ⟨?_, ?_, fun j hj => ?_, ?_, fun j hj => ?_, h.mem, ?_, h.size, ⟨h.base.1, Nat.le_trans hB1.2 (Nat.le_trans tn.size ts.size)⟩, ?_⟩⟩
  · refine (h1.m.same (tn.block _ h1.m.lt fun e => by have := hlo _ e; omega)).same (ts.block _ (Nat.lt_of_lt_of_le h1.m.lt tn.size) (by omega))
  · refine (kg.store i _).same ?_
    rw [arr_set _ _ _ _ hin]
    rfl
  · unfold updF
    rw [if_neg (by omega)]
    exact (h1.done j hj).kept fun a u ha hu => ts.cell (tn.cell hu fun e => by have := hlo _ e; have := ha.2; omega) (by have := ha.1; omega)
  · unfold updF
    rw [if_pos rfl, htk, List.map_append, numC_append, List.flatten_append]
    rw [List.flatten_append] at q1
    exact ts.own q1 fun g hg e => by have := hv' g hg; omega
  · unfold updF
    rw [if_neg (by omega)]
    exact h.later j hj
  · intro y hy
    rw [htk] at hy
    rcases List.mem_append.1 hy with hy | hy
    · exact h.memc y hy
    · rw [List.mem_singleton.1 hy]
      exact hS
  · exact below_turnA (below_turnA h1.old (Nat.le_refl _) tn fun g hg => by have := hlo g hg; omega) (Nat.le_refl _) ts fun g hg => by omega
/-- A list is done. -/
theorem NumI.next (h : NumI w B L n S i k z f W) (hk : (L.getD i []).length = k) (hm : k ≤ 1000) : NumI w W.heap.size L n S (i + 1) 0 z f W := by
  have htk : (L.getD i []).take k = L.getD i [] := by rw [← hk, List.take_length]
  have hb := h.base
  refine ⟨h.m, h.g, fun j hj => ?_, ?_, fun j hj => h.later j (by omega), fun j hj => ?_, by simp, h.size, ⟨by omega, Nat.le_refl _⟩, h.old⟩
  · by_cases e : j = i
    · subst e
      have := rdC_own h.cur (numC_els _) (by rw [numC_length, List.length_map, htk, hk]) (by omega)
      rw [htk] at this
      exact this.mono fun b q => ⟨by omega, q.2.1⟩
    · exact (h.done j (by omega)).mono fun b q => ⟨q.1, by omega⟩
  · rw [h.later (i + 1) (by omega)]
    exact ⟨rfl, .inl ⟨rfl, rfl⟩⟩
  · by_cases e : j = i
    · subst e
      rw [← htk]
      exact h.memc
    · exact h.mem j (by omega)
end
/-- Rows of numbers in block g, all of it from block B on. -/
def EntAt (W : World) (B g : Nat) (E : List (List Nat)) : Prop := B ≤ g ∧ ∃ f, Blk W g 86 (arr E.length f) ∧ ∀ j, j < E.length → RdZ W (fun b => B ≤ b) (f j) (E.getD j [])
theorem NumI.ends {w W : World} {B n z : Nat} {L : List (List (List UInt8))} {S : List (List UInt8)} {f : Nat → Value} (h : NumI w B L n S n 0 z f W) (hn : L.length = n) : ∃ E, EntAt W w.heap.size (w.heap.size + 1) E ∧ E.length = n ∧ Numbers S L E := by
  have hE : (L.map fun l => l.map fun x => idxL x S).length = n := by rw [List.length_map, hn]
  refine ⟨L.map fun l => l.map fun x => idxL x S, ⟨by omega, f, by rw [hE]; exact h.g, fun j hj => ?_⟩, hE, ⟨fun l hl => ?_, rfl⟩⟩
  · rw [hE] at hj
    have e : (L.map fun l => l.map fun x => idxL x S).getD j [] = (L.getD j []).map fun x => idxL x S := by
      rw [List.getD_eq_getElem?_getD, List.getElem?_map, List.getD_eq_getElem?_getD, List.getElem?_eq_getElem (by omega)]
      rfl
    rw [e]
    exact (h.done j hj).mono fun b q => by omega
  · obtain ⟨j, hj, rfl⟩ := List.mem_iff_getElem.1 hl
    have := h.mem j (by omega)
    rw [List.getD_eq_getElem?_getD, List.getElem?_eq_getElem hj] at this
    exact this
set_option maxRecDepth 100000 in
set_option maxHeartbeats 8000000 in
theorem numbered_any (A : Option Addr) (c : Nat) (L : List (List (List UInt8))) (w : World) (hr : RdPP w (fun b => b < w.heap.size) A L) (hf : FewL L) :
    Calls Try.prog 43 #[.slice A L.length c] w fun e w' => ∃ S E, e = .returned (.slice (some ⟨w.heap.size + 1, 0, none⟩) L.length L.length) ∧ EntAt w' w.heap.size (w.heap.size + 1) E ∧ E.length = L.length ∧ Numbers S L E ∧ Below w.heap.size w w' := by
  have HR := Lib.hid hr
  have HF := Lib.hid hf
  obtain ⟨n, hn⟩ : ∃ n, L.length = n := ⟨_, rfl⟩
  have hn8 : n ≤ 8 := by rw [← hn]; exact hf.1
  have HN := Lib.hid hn
  rw [hn]
  clear hr hf hn
  have hmk := fun W => run_mk_rows n (by omega) W
  have hmm := @run_makeMap Try.prog
  obtain ⟨W0, hW0⟩ : ∃ z, (w.alloc (.map #[] 0)).alloc (.cells (arr n fun _ => .slice none 0 0) 86) = z := ⟨_, rfl⟩
  have HST : Hid (NumI w W0.heap.size L n [] 0 0 0 (fun _ => .slice none 0 0) W0) := Lib.hid (by
    have hs : W0.heap.size = w.heap.size + 2 := by rw [← hW0]; simp
    refine ⟨?_, ?_, fun j hj => by omega, ⟨rfl, .inl ⟨rfl, rfl⟩⟩, fun _ _ => rfl, fun j hj => by omega, by simp, by simp, ⟨by omega, Nat.le_refl _⟩, ?_⟩
    · rw [← hW0]
      exact (numM_made w).same (((Below.refl _ _).alloc (Nat.le_refl _) _).block _ (by simp))
    · rw [← hW0]
      exact Blk.newAt _ _ (by simp) rfl
    · rw [← hW0]
      exact ((Below.refl _ _).alloc (Nat.le_refl _) _).alloc (by simp) _)
  have HW0 := Lib.hid hW0
  clear hW0
  go_enter Try.func43, Try.ntmps43
  go_upto_region 3 with fail
  rw [HW0.out]
  clear hmk hmm
  go_wp2_with fail
  go_loopw [17] (fun i wr => ∃ (a : Nat) (S : List (List UInt8)) (f : Nat → Value), a ≤ n ∧ i = .int .i64 (a : Int) ∧ NumI w wr.heap.size L n S a 0 (12 * a) f wr) (fun i _ => n - (intOf i).toNat)
  case atStart => exact ⟨0, _, _, Nat.zero_le _, rfl, HST.out⟩
  case round =>
    clear HST
    obtain ⟨a, S0, f0, ha, rfl, hI0⟩ := hrel
    obtain ⟨wa, hwa⟩ : ∃ z, z = wr := ⟨_, rfl⟩
    subst hwa
    by_cases han : a < n
    · have hai : (a : Int) < (n : Int) := by omega
      obtain ⟨ad, A', c', rfl, hadl, hcell, hlb, hrd⟩ := HR.out a (by rw [HN.out]; exact han)
      have hokl := HF.out.2 _ (getD_mem [] (show a < L.length by rw [HN.out]; exact han))
      obtain ⟨l, hl⟩ : ∃ z, L.getD a [] = z := ⟨_, rfl⟩
      rw [hl] at hcell hlb hrd hokl
      obtain ⟨m, hm⟩ : ∃ z, l.length = z := ⟨_, rfl⟩
      rw [hm] at hcell hlb
      have hm12 : m ≤ 12 := by rw [← hm]; exact hokl.1
      have hcw := (hI0.old.cell (p := ad.add a) (by rw [block_add]; exact hadl)).trans hcell
      have HL := Lib.hid hl
      have HM := Lib.hid hm
      have HRD := Lib.hid hrd
      have HOK := Lib.hid hokl
      have HI0 := Lib.hid hI0
      have HB := Lib.hid (show w.heap.size ≤ wa.heap.size from hI0.old.size)
      obtain ⟨B, hB⟩ : ∃ z, wa.heap.size = z := ⟨_, rfl⟩
      have HI1 : Hid (NumI w B L n S0 a 0 (12 * a) f0 wa) := Lib.hid (by rw [← hB]; exact HI0.out)
      clear hcell hrd hokl hl hm hI0 hadl HI0 hB
      go_wp2_with fail
      go_loopw [24] (fun i wr => ∃ (k : Nat) (S : List (List UInt8)) (f : Nat → Value), k ≤ m ∧ i = .int .i64 (k : Int) ∧ NumI w B L n S a k (12 * a + k) f wr) (fun i _ => m - (intOf i).toNat)
      case atStart => exact ⟨0, _, _, Nat.zero_le _, rfl, HI1.out⟩
      case round =>
        clear HI1 hcw
        obtain ⟨k, S, f, hk, rfl, hI⟩ := hrel
        obtain ⟨wk, hwk⟩ : ∃ z, z = wr := ⟨_, rfl⟩
        subst hwk
        by_cases hkm : k < m
        · have hki : (k : Int) < (m : Int) := by omega
          obtain ⟨ad2, Ax, cx, rfl, hxl, hcx, hrx, hxn⟩ := HRD.out.at (k := k) (by rw [HM.out]; exact hkm)
          have hga := getD_at (l := l) [] (show k < l.length by rw [HM.out]; exact hkm)
          have hgm := getD_mem (l := l) [] (show k < l.length by rw [HM.out]; exact hkm)
          obtain ⟨x, hx⟩ : ∃ z, l.getD k [] = z := ⟨_, rfl⟩
          rw [hx] at hcx hrx hga hgm
          have hx1000 : x.length ≤ 1000 := HOK.out.2 x hgm
          have HX1000 := Lib.hid hx1000
          have HGA := Lib.hid (show (L.getD a [])[k]? = some x by rw [HL.out]; exact hga)
          have hcxw := (hI.old.cell (p := ad2.add k) (by rw [block_add]; exact hxl)).trans hcx
          have hcv := str_rd (hrx.kept (W' := wk) fun p u hp h => (hI.old.cell (p := p) hp).trans h)
          obtain ⟨xn, hxn2⟩ : ∃ z, x.length = z := ⟨_, rfl⟩
          rw [hxn2] at hcxw hcv
          have HI := Lib.hid hI
          have hsz := hI.size
          have HSZ : Hid (S.length < maxLen) := Lib.hid (by unfold maxLen; omega)
          have HK := Lib.hid (show k ≤ 1000 by omega)
          clear hcx hrx hga hgm hx hxl hxn hxn2 hx1000 hI hsz
          by_cases hS : x ∈ S
          · have HS := Lib.hid hS
            obtain ⟨q, hq⟩ : ∃ z, idxL x S = z := ⟨_, rfl⟩
            obtain ⟨Av, cv, w', hrun, hcw, hfw, hIn⟩ := HI.out.add han HGA.out hS HK.out
            rw [hq] at hrun
            have HRUN := Lib.hid hrun
            have HIN := Lib.hid (hIn.more (show 12 * a + k ≤ 12 * a + (k + 1) by omega))
            have hcg : wk.cell? ⟨w.heap.size + 1, a, none⟩ = some (f a) := by rw [HI.out.g.cell, arr_get, if_pos han]
            have HQ := Lib.hid hq
            clear hrun hIn hS hq
            go_wp2_with (first
              | (guard_target = wpList _ _ _ (Oper.mk _ (.lookup _ _ _ _) _ _ _ _ :: _) _ _; refine wpList_num_look rfl _ _ rfl rfl HI.out.m x rfl HX1000.out ?_; rw [if_pos HS.out, decide_eq_true HS.out, HQ.out])
              | (at_builtin; refine wpList_append_run rfl (.tmp 48) (.tmp 50) _ _ rfl _ _ rfl rfl _ _ HRUN.out ?_))
            go_roundw
            · exact ⟨k + 1, S, _, by omega, by go_num, HIN.out⟩
            · simp [intOf]
              omega
          · have HS := Lib.hid hS
            clear hS
            go_upto_region 13 with (first
              | (guard_target = wpList _ _ _ (Oper.mk _ (.lookup _ _ _ _) _ _ _ _ :: _) _ _; refine wpList_num_look rfl _ _ rfl rfl HI.out.m x rfl HX1000.out ?_; rw [if_neg HS.out, decide_eq_false HS.out])
              | (guard_target = wpList _ _ _ (Oper.mk _ (.mapUpdate _ _ _ _) _ _ _ _ :: _) _ _; refine wpList_num_store rfl _ _ _ rfl rfl HI.out.m x rfl rfl HX1000.out HS.out HSZ.out ?_; intro w5 hm5 ht5; have HI5 := Lib.hid (HI.out.put hm5 ht5); clear hm5 ht5)
              | (guard_target = wpList _ _ _ (Oper.mk _ (.call _) _ _ _ _ :: _) _ _; refine wpList_num_len rfl (.tmp 37) rfl rfl HI.out.m ?_))
            have hidx : idxL x (S ++ [x]) = S.length := idxL_out HS.out
            obtain ⟨Av, cv, w', hrun, hcw, hfw, hIn⟩ := HI5.out.add han HGA.out (by simp) HK.out
            rw [hidx] at hrun
            have HRUN := Lib.hid hrun
            have HIN := Lib.hid (hIn.more (show 12 * a + k + 1 ≤ 12 * a + (k + 1) by omega))
            have hcg : w5.cell? ⟨w.heap.size + 1, a, none⟩ = some (f a) := by rw [HI5.out.g.cell, arr_get, if_pos han]
            clear hrun hIn hidx hcxw hcv
            go_wp2_with (at_builtin; refine wpList_append_run rfl (.tmp 48) (.tmp 50) _ _ rfl _ _ rfl rfl _ _ HRUN.out ?_)
            go_roundw
            · exact ⟨k + 1, _, _, by omega, by go_num, HIN.out⟩
            · simp [intOf]
              omega
        · obtain rfl : k = m := by omega
          have HNX := Lib.hid ((hI.next (by rw [HL.out]; exact HM.out) (by omega)).more (show 12 * a + k ≤ 12 * (a + 1) by omega))
          clear hI
          go_wp2
          go_roundw
          · exact ⟨a + 1, S, f, by omega, by go_num, HNX.out⟩
          · simp [intOf]
            omega
    · obtain rfl : a = n := by omega
      obtain ⟨E, he1, he2, he3⟩ := hI0.ends HN.out
      have HE := Lib.hid (And.intro he1 (And.intro he2 (And.intro he3 hI0.old)))
      clear hI0 he1 he2 he3
      go_wp2
      go_ret
      exact ⟨S0, E, rfl, HE.out.1, HE.out.2.1, HE.out.2.2.1, HE.out.2.2.2⟩
end Go.Proofs.Ytjdgcciemlfapaa
namespace Go.Proofs.Ytjdgcciemlfapaa
open Go Go.RowKit Go.Shelf Go.Maps

/-- The first that isn't one of some others. -/
def foreignL (l h : List (List UInt8)) : Option Nat := (List.range l.length).find? fun k => decide (l.getD k [] ∉ h)
theorem foreignL_some {l h : List (List UInt8)} {k : Nat} (hk : k < l.length) (hd : l.getD k [] ∉ h) (hb : ∀ j, j < k → l.getD j [] ∈ h) : foreignL l h = some k := by
  unfold foreignL
  rw [List.find?_range_eq_some]
  exact ⟨by simpa using hd, List.mem_range.2 hk, fun j hj => by simpa using hb j hj⟩
theorem foreignL_none {l h : List (List UInt8)} (hb : ∀ j, j < l.length → l.getD j [] ∈ h) : foreignL l h = none := by
  unfold foreignL
  rw [List.find?_eq_none]
  intro j hj
  simpa using hb j (List.mem_range.1 hj)
def forB (l h : List (List UInt8)) : Int × Bool := match foreignL l h with
  | some k => ((k : Int), true)
  | none => (0, false)
theorem key_inj {j k : List UInt8} (h : (Value.string ⟨j.toArray⟩) = .string ⟨k.toArray⟩) : j = k := by
  injection h with h
  exact ba_inj h
/-- Block b is the set of these texts. -/
def SetM (W : World) (b n : Nat) (S : List (List UInt8)) : Prop := ∃ M, MapV Try.prog 9 W b n M ∧ ∀ k : List UInt8, M (.string ⟨k.toArray⟩) = if k ∈ S then some (.agg #[]) else none
theorem setM_made (w : World) : SetM (w.alloc (.map #[] 0)) w.heap.size 0 [] := ⟨_, mapV_made _ _ w, fun k => by simp⟩
theorem unit_zero (w : World) : (zeroValue 76).run Try.prog w = .ok (.agg #[]) w := by kernel_rfl
section
variable {W W' : World} {b n : Nat} {S : List (List UInt8)}
theorem SetM.same (h : SetM W b n S) (hb : W'.heap[b]? = W.heap[b]?) : SetM W' b n S := by
  obtain ⟨M, h1, h2⟩ := h
  exact ⟨M, h1.same hb, h2⟩
theorem SetM.lt (h : SetM W b n S) : b < W.heap.size := by
  obtain ⟨M, h1, h2⟩ := h
  exact h1.lt
theorem SetM.put {k : List UInt8} {M : Value → Option Value} (h2 : ∀ k : List UInt8, M (.string ⟨k.toArray⟩) = if k ∈ S then some (.agg #[]) else none) (hm : MapV Try.prog 9 W b n (putV M (.string ⟨k.toArray⟩) (.agg #[]))) : SetM W b n (S ++ [k]) := by
  refine ⟨_, hm, fun j => ?_⟩
  by_cases e : j = k
  · subst e
    rw [putV_same, if_pos (by simp)]
  · rw [putV_other (fun h => e (key_inj h)), h2 j]
    by_cases hs : j ∈ S
    · rw [if_pos hs, if_pos (by simp [hs])]
    · rw [if_neg hs, if_neg (by simp [hs, e])]
end
section
variable {ops : Array Oper} {rest : List Oper} {o : Oper} {a : Act} {w : World} {Q : Exit → Act → World → Prop} {b n : Nat} {S : List (List UInt8)}
theorem wpList_set_look (hg : o.guard = none) (m x : Operand) (hop : o.op = Op.lookup 75 m x true) (hm : a.eval m = .map (some b)) (h : SetM w b n S) (k : List UInt8) (hx : a.eval x = .string ⟨k.toArray⟩) (hk : k.length ≤ 1000) (hK : wpList Try.prog ops Q rest (a.put o.dst (.tuple #[.agg #[], .bool (decide (k ∈ S))])) w) : wpList Try.prog ops Q (o :: rest) a w := by
  obtain ⟨M, h1, h2⟩ := h
  refine wpList_lookupOk_V hg m x 75 hop 9 76 str_law Try.underlying75 (unit_zero w) b n M hm h1 _ hx ⟨_, key_str hk⟩ ?_
  rw [h2 k]
  by_cases hs : k ∈ S
  · rw [if_pos hs]
    rw [decide_eq_true hs] at hK
    exact hK
  · rw [if_neg hs]
    rw [decide_eq_false hs] at hK
    exact hK
theorem wpList_set_store (hg : o.guard = none) (m x v : Operand) (hop : o.op = Op.mapUpdate 75 m x v) (hm : a.eval m = .map (some b)) (h : SetM w b n S) (hn : n < maxLen) (k : List UInt8) (hx : a.eval x = .string ⟨k.toArray⟩) (hv : a.eval v = .agg #[]) (hk : k.length ≤ 1000)
    (hK : ∀ w', SetM w' b (n + 1) (S ++ [k]) → w.mapTurned w' b → wpList Try.prog ops Q rest (a.put o.dst undef) w') : wpList Try.prog ops Q (o :: rest) a w := by
  obtain ⟨M, h1, h2⟩ := h
  exact wpList_store_V hg m x v 75 hop 9 76 str_law Try.underlying75 b n M hm h1 hn _ _ hx hv ⟨_, key_str hk⟩ fun w' r1 r2 => hK w' (SetM.put h2 r1) r2
end
set_option maxRecDepth 100000 in
set_option maxHeartbeats 8000000 in
theorem foreign_any (A A2 : Option Addr) (c c2 : Nat) (l h : List (List UInt8)) (w : World) (hr : RdP w (fun b => b < w.heap.size) A l) (hr2 : RdP w (fun b => b < w.heap.size) A2 h) (hl : l.length ≤ 1000) (hh : h.length ≤ 1000) (hb : ∀ b ∈ l, b.length ≤ 1000) (hb2 : ∀ b ∈ h, b.length ≤ 1000) :
    Calls Try.prog 16 #[.slice A l.length c, .slice A2 h.length c2] w fun e w' => e = .returned (.tuple #[.int .i64 (forB l h).1, .bool (forB l h).2]) ∧ Below w.heap.size w w' := by
  have HR := Lib.hid hr
  have HR2 := Lib.hid hr2
  have HB := Lib.hid (And.intro hb hb2)
  obtain ⟨n, hn⟩ : ∃ z, l.length = z := ⟨_, rfl⟩
  obtain ⟨m, hm⟩ : ∃ z, h.length = z := ⟨_, rfl⟩
  rw [hn] at hl ⊢
  rw [hm] at hh ⊢
  have HN := Lib.hid (And.intro hn hm)
  have hmm := @run_makeMap Try.prog
  clear hr hr2 hb hb2 hn hm
  go_enter Try.func16, Try.ntmps16
  go_upto_region 2 with fail
  obtain ⟨W0, hW0⟩ : ∃ z, w.alloc (.map #[] 0) = z := ⟨_, rfl⟩
  have HST : Hid (SetM W0 w.heap.size 0 [] ∧ Below w.heap.size w W0) := Lib.hid (by rw [← hW0]; exact ⟨setM_made w, (Below.refl _ _).alloc (Nat.le_refl _) _⟩)
  rw [hW0]
  clear hW0 hmm
  go_wp2_with fail
  go_loopw [16] (fun i wr => ∃ k : Nat, k ≤ m ∧ i = .int .i64 (k : Int) ∧ SetM wr w.heap.size k (h.take k) ∧ Below w.heap.size w wr) (fun i _ => m - (intOf i).toNat)
  case atStart => exact ⟨0, Nat.zero_le _, rfl, HST.out⟩
  case round =>
    clear HST
    obtain ⟨k, hk, rfl, hst, hbw⟩ := hrel
    obtain ⟨wk, hwk⟩ : ∃ z, z = wr := ⟨_, rfl⟩
    subst hwk
    by_cases hkm : k < m
    · have hki : (k : Int) < (m : Int) := by omega
      obtain ⟨ad, Ax, cx, rfl, hxl, hcx, hrx, hxn⟩ := HR2.out.at (k := k) (by rw [HN.out.2]; exact hkm)
      have htk := getD_take (l := h) [] (show k < h.length by rw [HN.out.2]; exact hkm)
      have hgm := getD_mem (l := h) [] (show k < h.length by rw [HN.out.2]; exact hkm)
      obtain ⟨x, hx⟩ : ∃ z, h.getD k [] = z := ⟨_, rfl⟩
      rw [hx] at hcx hrx htk hgm
      have HX1000 := Lib.hid (HB.out.2 x hgm)
      have hcw := (hbw.cell (p := ad.add k) (by rw [block_add]; exact hxl)).trans hcx
      have hcv := str_rd (hrx.kept (W' := wk) fun p u hp q => (hbw.cell (p := p) hp).trans q)
      obtain ⟨xn, hxn2⟩ : ∃ z, x.length = z := ⟨_, rfl⟩
      rw [hxn2] at hcw hcv
      have HST := Lib.hid hst
      have HBW := Lib.hid hbw
      have HTK := Lib.hid htk
      have HSZ : Hid (k < maxLen) := Lib.hid (by unfold maxLen; omega)
      clear hcx hrx hgm hx hxl hxn hxn2 hst hbw htk
      go_wp2_with (guard_target = wpList _ _ _ (Oper.mk _ (.mapUpdate _ _ _ _) _ _ _ _ :: _) _ _; refine wpList_set_store rfl _ _ _ rfl rfl HST.out HSZ.out x rfl rfl HX1000.out ?_; intro w5 hm5 ht5; have H5 : Hid (SetM w5 w.heap.size (k + 1) (h.take (k + 1)) ∧ Below w.heap.size w w5) := Lib.hid ⟨by rw [HTK.out]; exact hm5, below_turnA HBW.out (Nat.le_refl _) (turn_map ht5) fun i hi => by omega⟩; clear hm5 ht5)
      go_roundw
      · exact ⟨k + 1, by omega, by go_num, H5.out⟩
      · simp [intOf]
        omega
    · obtain rfl : k = m := by omega
      have HST : Hid (SetM wk w.heap.size k h ∧ Below w.heap.size w wk) := Lib.hid ⟨by rw [← HN.out.2, List.take_length] at hst; rw [← HN.out.2]; exact hst, hbw⟩
      clear hst hbw
      go_wp2_with fail
      go_loopw [27] (fun i wr => ∃ q : Nat, q ≤ n ∧ i = .int .i64 (q : Int) ∧ Below wk.heap.size wk wr ∧ ∀ j, j < q → l.getD j [] ∈ h) (fun i _ => n - (intOf i).toNat)
      case atStart => exact ⟨0, Nat.zero_le _, rfl, Below.refl _ _, fun j hj => by omega⟩
      case round =>
        obtain ⟨q, hq, rfl, hbq, hall⟩ := hrel
        obtain ⟨wq, hwq⟩ : ∃ z, z = wr := ⟨_, rfl⟩
        subst hwq
        have HALL := Lib.hid hall
        have HBQ := Lib.hid hbq
        have HOLD := Lib.hid (HST.out.2.trans (hbq.mono HST.out.2.size))
        by_cases hqn : q < n
        · have hqi : (q : Int) < (n : Int) := by omega
          obtain ⟨ad, Ax, cx, rfl, hxl, hcx, hrx, hxn⟩ := HR.out.at (k := q) (by rw [HN.out.1]; exact hqn)
          have hgm := getD_mem (l := l) [] (show q < l.length by rw [HN.out.1]; exact hqn)
          obtain ⟨x, hx⟩ : ∃ z, l.getD q [] = z := ⟨_, rfl⟩
          have HX := Lib.hid hx
          rw [hx] at hcx hrx hgm
          have HX1000 := Lib.hid (HB.out.1 x hgm)
          have hcw := (HOLD.out.cell (p := ad.add q) (by rw [block_add]; exact hxl)).trans hcx
          have hcv := str_rd (hrx.kept (W' := wq) fun p u hp z => (HOLD.out.cell (p := p) hp).trans z)
          obtain ⟨xn, hxn2⟩ : ∃ z, x.length = z := ⟨_, rfl⟩
          rw [hxn2] at hcw hcv
          have HSQ := Lib.hid (HST.out.1.same (HBQ.out.block _ HST.out.1.lt))
          have HBA : Hid (Below wk.heap.size wk (wq.alloc (.cells #[] 76))) := Lib.hid (HBQ.out.alloc HBQ.out.size _)
          have HBA2 : Hid (Below w.heap.size w (wq.alloc (.cells #[] 76))) := Lib.hid (HOLD.out.alloc HOLD.out.size _)
          clear hcx hrx hgm hx hxl hxn hxn2 hall hbq
          by_cases hS : x ∈ h
          · have HS := Lib.hid hS
            clear hS
            go_wp2_with (guard_target = wpList _ _ _ (Oper.mk _ (.lookup _ _ _ _) _ _ _ _ :: _) _ _; refine wpList_set_look rfl _ _ rfl rfl HSQ.out x rfl HX1000.out ?_; rw [decide_eq_true HS.out])
            go_roundw
            · exact ⟨q + 1, by omega, by go_num, HBA.out, fun j hj => by
                by_cases e : j = q
                · rw [e, HX.out]
                  exact HS.out
                · exact HALL.out j (by omega)⟩
            · simp [intOf]
              omega
          · have HF : Hid (forB l h = ((q : Int), true)) := Lib.hid (by
              unfold forB
              rw [foreignL_some (by rw [HN.out.1]; exact hqn) (by rw [HX.out]; exact hS) HALL.out])
            have HS := Lib.hid hS
            clear hS
            go_wp2_with (guard_target = wpList _ _ _ (Oper.mk _ (.lookup _ _ _ _) _ _ _ _ :: _) _ _; refine wpList_set_look rfl _ _ rfl rfl HSQ.out x rfl HX1000.out ?_; rw [decide_eq_false HS.out])
            go_ret2
            exact ⟨by rw [HF.out]; rfl, HBA2.out⟩
        · obtain rfl : q = n := by omega
          have HF : Hid (forB l h = (0, false)) := Lib.hid (by
            unfold forB
            rw [foreignL_none (by rw [HN.out.1]; exact HALL.out)])
          clear hall hbq
          go_wp2
          go_ret2
          exact ⟨by rw [HF.out]; rfl, HOLD.out⟩
end Go.Proofs.Ytjdgcciemlfapaa
