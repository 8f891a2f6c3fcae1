/-
  Votes counted, as plain mathematics: who voted for what, how many for one thing, what is sure, who is ahead. Nothing here speaks of the program. No condition.
-/
import Derived.Laws.World
namespace Go.Proofs.Ytpjeildiahklpaa

/-- Votes: round, kind, who. -/
abbrev Vt := Int → Int → Int → Option (List UInt8)
def zeroId : List UInt8 := List.replicate 32 0
def faults (n : Int) : Int := if n = 1 then 0 else if n = 4 then 1 else if n = 7 then 2 else -1
def need (n : Int) : Int := max (2 * faults n + 1) 0
def okPut (n r k s : Int) (id : List UInt8) : Bool := decide (0 ≤ r) && decide (r < 12) && (decide (k = 0) || decide (k = 1)) && decide (0 ≤ s) && decide (s < n) && !(id == zeroId)
def putC (V : Vt) (r k s : Int) (id : List UInt8) : Vt := fun r' k' s' => if r' = r ∧ k' = k ∧ s' = s then some id else V r' k' s'
def putCode (n : Int) (V : Vt) (r k s : Int) (id : List UInt8) : Int := if okPut n r k s id = false then 1 else if (V r k s).isSome then 5 else 0
def putT (n : Int) (V : Vt) (r k s : Int) (id : List UInt8) : Vt := if okPut n r k s id = true ∧ (V r k s).isSome = false then putC V r k s id else V
/-- The votes of a kind in a round, in order. -/
def castL (n : Nat) (V : Vt) (r k : Int) : List (Nat × List UInt8) := (List.range n).filterMap fun (s : Nat) => (V r k (s : Int)).map fun f => (s, f)
def allN (n : Nat) (V : Vt) (r k : Int) : Nat := (List.range n).countP fun (s : Nat) => (V r k (s : Int)).isSome
def forN (n : Nat) (V : Vt) (r k : Int) (id : List UInt8) : Nat := (List.range n).countP fun (s : Nat) => V r k (s : Int) == some id
def sureO (n : Nat) (V : Vt) (r k : Int) : Option (List UInt8) := ((castL n V r k).find? fun p => decide (need n ≤ (forN n V r k p.2 : Int))).map (·.2)
/-- Who voted in a round, each once. -/
def presentL (n : Nat) (V : Vt) (r : Int) : List (Nat × List UInt8) := castL n V r 0 ++ (castL n V r 1).filter fun p => (V r 0 p.1).isNone
def aheadO (n : Nat) (V : Vt) (r : Int) : Option Nat := ((List.range 12).filter fun (m : Nat) => decide (r < (m : Int)) && decide (faults n < ((presentL n V m).length : Int))).getLast?

theorem countP_filterMap {α β : Type} (f : α → Option β) (p : β → Bool) (l : List α) : ((l.filterMap f).filter p).length = l.countP fun a => match f a with | some b => p b | none => false := by
  induction l with
  | nil => rfl
  | cons a l ih =>
    rw [List.countP_cons]
    cases h : f a with
    | none => rw [List.filterMap_cons_none h, ih]; simp
    | some b =>
      rw [List.filterMap_cons_some h, List.filter_cons]
      cases hp : p b <;> simp [ih, hp]
theorem castL_all (n : Nat) (V : Vt) (r k : Int) : (castL n V r k).length = allN n V r k := by
  have := countP_filterMap (fun s : Nat => (V r k s).map fun f => (s, f)) (fun _ => true) (List.range n)
  rw [List.filter_eq_self.2 (fun _ _ => rfl)] at this
  unfold castL allN
  rw [this]
  refine List.countP_congr fun s _ => ?_
  cases V r k s <;> simp
theorem castL_for (n : Nat) (V : Vt) (r k : Int) (id : List UInt8) : ((castL n V r k).filter fun p => p.2 == id).length = forN n V r k id := by
  unfold castL forN
  rw [countP_filterMap]
  refine List.countP_congr fun s _ => ?_
  cases V r k s <;> simp
theorem faults_cases {n : Int} (h : 0 ≤ faults n) : n = 1 ∧ faults n = 0 ∨ n = 4 ∧ faults n = 1 ∨ n = 7 ∧ faults n = 2 := by
  unfold faults at h ⊢
  by_cases h1 : n = 1
  · simp [h1]
  · by_cases h4 : n = 4
    · simp [h4]
    · by_cases h7 : n = 7
      · simp [h7]
      · simp [h1, h4, h7] at h
theorem mem_castL {n : Nat} {V : Vt} {r k : Int} {p : Nat × List UInt8} : p ∈ castL n V r k ↔ p.1 < n ∧ V r k p.1 = some p.2 := by
  unfold castL
  rw [List.mem_filterMap]
  constructor
  · rintro ⟨s, hs, h⟩
    rw [List.mem_range] at hs
    cases hv : V r k s with
    | none => simp [hv] at h
    | some f =>
      simp [hv] at h
      subst h
      exact ⟨hs, hv⟩
  · rintro ⟨h1, h2⟩
    exact ⟨p.1, List.mem_range.2 h1, by rw [h2]; rfl⟩
theorem countP_or_le {α : Type} (p q : α → Bool) (l : List α) (h : ∀ a ∈ l, ¬ (p a = true ∧ q a = true)) : l.countP p + l.countP q ≤ l.length := by
  induction l with
  | nil => simp
  | cons a l ih =>
    have hi := ih fun b hb => h b (List.mem_cons_of_mem _ hb)
    have ha := h a (List.mem_cons_self ..)
    rw [List.countP_cons, List.countP_cons, List.length_cons]
    cases hp : p a <;> cases hq : q a <;> simp_all <;> omega
/-- Two lots of votes that are alike at those who aren't faulty: not two unlike things are sure. -/
theorem sure_two (n f : Nat) (hn : n = 3 * f + 1) (p q : Nat → Bool) (h : ∀ s, f ≤ s → s < n → ¬ (p s = true ∧ q s = true)) (h1 : 2 * f + 1 ≤ (List.range n).countP p) (h2 : 2 * f + 1 ≤ (List.range n).countP q) : False := by
  have e : List.range n = List.range f ++ (List.range (n - f)).map (f + ·) := by
    rw [← List.range_add]
    congr 1
    omega
  rw [e, List.countP_append] at h1 h2
  have a1 : (List.range f).countP p ≤ f := by simpa using List.countP_le_length (p := p) (l := List.range f)
  have a2 : (List.range f).countP q ≤ f := by simpa using List.countP_le_length (p := q) (l := List.range f)
  have a3 := countP_or_le p q ((List.range (n - f)).map (f + ·)) (by
    intro a ha
    rw [List.mem_map] at ha
    obtain ⟨b, hb, rfl⟩ := ha
    rw [List.mem_range] at hb
    exact h _ (by omega) (by omega))
  simp only [List.length_map, List.length_range] at a3
  omega
theorem forN_one {n : Nat} (hn : 0 ≤ faults n) {V : Vt} {r k : Int} {x y : List UInt8} (hx : need n ≤ (forN n V r k x : Int)) (hy : need n ≤ (forN n V r k y : Int)) : x = y := by
  refine Classical.byContradiction fun hne => ?_
  obtain ⟨f, hf, hnf⟩ : ∃ f : Nat, faults n = (f : Int) ∧ n = 3 * f + 1 := by
    rcases faults_cases hn with ⟨h1, h2⟩ | ⟨h1, h2⟩ | ⟨h1, h2⟩
    · exact ⟨0, h2, by omega⟩
    · exact ⟨1, h2, by omega⟩
    · exact ⟨2, h2, by omega⟩
  have hneed : need n = 2 * (f : Int) + 1 := by unfold need; omega
  refine sure_two n f hnf (fun s : Nat => V r k (s : Int) == some x) (fun s : Nat => V r k (s : Int) == some y) (fun s _ _ h => ?_) (by unfold forN at hx; omega) (by unfold forN at hy; omega)
  simp only [beq_iff_eq] at h
  exact hne (Option.some.inj (h.1.symm.trans h.2))
theorem forN_mem {n : Nat} {V : Vt} {r k : Int} {x : List UInt8} (h : 0 < forN n V r k x) : ∃ s : Nat, (s, x) ∈ castL n V r k := by
  unfold forN at h
  obtain ⟨s, hs, hx⟩ := List.countP_pos_iff.1 h
  exact ⟨s, mem_castL.2 ⟨List.mem_range.1 hs, by simpa using hx⟩⟩
theorem need_pos {n : Int} (h : 0 ≤ faults n) : 1 ≤ need n := by unfold need; omega
theorem sureO_iff {n : Nat} (hn : 0 ≤ faults n) {V : Vt} {r k : Int} {x : List UInt8} : sureO n V r k = some x ↔ need n ≤ (forN n V r k x : Int) := by
  unfold sureO
  constructor
  · intro h
    rw [Option.map_eq_some_iff] at h
    obtain ⟨p, hp, rfl⟩ := h
    simpa using List.find?_some hp
  · intro h
    have hp := need_pos hn
    obtain ⟨s, hs⟩ := forN_mem (n := n) (V := V) (r := r) (k := k) (x := x) (by omega)
    cases hf : (castL n V r k).find? fun p => decide (need n ≤ (forN n V r k p.2 : Int)) with
    | none =>
      have := List.find?_eq_none.1 hf _ hs
      simp at this
      omega
    | some p =>
      have := List.find?_some hf
      simp only [decide_eq_true_eq] at this
      rw [Option.map_some, forN_one hn this h]
theorem forN_mono {n : Nat} {V V' : Vt} {r k : Int} {x : List UInt8} (h : ∀ s : Nat, s < n → V r k s = some x → V' r k s = some x) : forN n V r k x ≤ forN n V' r k x := by
  unfold forN
  refine List.countP_mono_left fun s hs hx => ?_
  rw [beq_iff_eq] at hx ⊢
  exact h s (List.mem_range.1 hs) hx
theorem allN_mono {n : Nat} {V V' : Vt} {r k : Int} (h : ∀ s : Nat, s < n → (V r k s).isSome = true → (V' r k s).isSome = true) : allN n V r k ≤ allN n V' r k := by
  unfold allN
  exact List.countP_mono_left fun s hs hx => h s (List.mem_range.1 hs) hx
theorem allN_le (n : Nat) (V : Vt) (r k : Int) : allN n V r k ≤ n := by
  unfold allN
  simpa using List.countP_le_length (p := fun s : Nat => (V r k s).isSome) (l := List.range n)
theorem sureO_stays {n : Nat} (hn : 0 ≤ faults n) {V V' : Vt} {r k : Int} {x : List UInt8} (h : ∀ s : Nat, s < n → V r k s = some x → V' r k s = some x) (hs : sureO n V r k = some x) : sureO n V' r k = some x := by
  rw [sureO_iff hn] at hs ⊢
  have := forN_mono h
  omega
theorem putT_keeps {n : Int} {V : Vt} {r k s : Int} {id : List UInt8} {r' k' s' : Int} {x : List UInt8} (h : V r' k' s' = some x) : putT n V r k s id r' k' s' = some x := by
  unfold putT
  split
  · rename_i hc
    unfold putC
    split
    · rename_i he
      obtain ⟨rfl, rfl, rfl⟩ := he
      rw [h] at hc
      simp at hc
    · exact h
  · exact h
end Go.Proofs.Ytpjeildiahklpaa
