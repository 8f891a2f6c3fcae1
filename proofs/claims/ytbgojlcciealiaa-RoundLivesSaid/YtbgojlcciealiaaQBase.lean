/-
  A map whose keys are of one kind, as a function from keys to values: made, looked up (with and without ok), stored into. Whatever values it holds. No condition.
  Votes counted, as plain mathematics: who voted for what, how many for one thing, what is sure, who is ahead. Nothing here speaks of the program. No condition.
  Plain mathematics for the sums: SHA-256 on words of 32 bits, written over functions from places to words; nothing here speaks of the program. No condition.
  Small words for memory: a block that is known whole (after the guide's extra-words.md, section 2), kept over draws, new blocks, stores elsewhere. No condition.
  A range over a function whose iterator keeps state of its own in cells: the iterator's contract ('SeqC': the elements are known, in order) and the law for the caller. After the guide's wpIn_rangeFunc_ownH; the turn: the caller's invariant abides whatever lies below the heap that the loop began with, and the body keeps every block of cells but its own. No condition.
  The range over a function of Seq, where the iterator also reads what is no block of cells (a map): that it stands is the caller's to keep. No condition.
  Laws for single operations inside a fence that lets every function in: a whole array loaded and stored, the builtin copy into a block that is known whole. No condition of their own.
  What the count of votes lies in: its struct and its map; IDs as values; the key of a vote. No condition.
  Laws for single operations outside of a fence: a whole array loaded, stored, copied into, the world behind it under a name; results of which the first lies in a variable. No condition of their own.
  The count of votes: how many may be faulty, how many are needed, Nil, New, has, Get, Put. No condition.
  Votes put one after the other, as plain mathematics: each voter's first counts; where no two are of one voter, kind and round, the order is nothing. Nothing here speaks of the program. No condition.
-/
import Derived.OrdersHeld
import Derived.Maps.OwnIn
import Derived.Maps.OwnSet
import Derived.DeepKeys4
import Derived.Laws.World
import Derived.Laws.BitsAllLaws
import Derived.Laws.Rows
import Derived.WalkKit
import Derived.Below
import Derived.Laws.OwnMore
import Derived.Deep.Draws
import Derived.Deep.WholeRow
import Derived.RangeFuncNested
import Derived.RangeFuncBound
import Derived.RangeFuncCalls
import Derived.RangeFuncLeaves
import Derived.OwnWalkIn
import Derived.Laws.CopyOwn
import Derived.Laws.IdiomCopy
import Derived.Test.YtbgojlcciealiaaProg
import Derived.Lib.Hide
import Derived.Stop.BytesEq
import Derived.WalkMore
import Derived.Laws.Tables
import Derived.Shelf.Abstract
import Derived.Deep.RegionLaw
import Derived.Deep.CutRange
import Derived.BigQuiet
namespace Go.Proofs.Ytbgojlcciealiaa
open Go Go.RowKit Go.Maps

/-- A value reads as itself. -/
def holdV (v : Value) : Option (DataW Value × List MemPlace) := some (.held v, [])
/-- Block b is a map of at most n entries that holds M. -/
def MapV (P : Program) (K : TypeId) (w : World) (b n : Nat) (M : Value → Option Value) : Prop :=
  ∃ D : DataW Value, w.ownsMap P K holdV b n D ∧ ∀ key kl, keyOf P K key = some kl → Maps.has D kl = (M key).isSome ∧ ∀ z, D.atKey kl z = ((M key).map DataW.held).getD z
open Classical in
/-- One more entry. -/
noncomputable def putV (M : Value → Option Value) (key v : Value) : Value → Option Value := fun x => if x = key then some v else M x
theorem putV_same (M : Value → Option Value) (key v : Value) : putV M key v key = some v := by unfold putV; rw [if_pos rfl]
theorem putV_other {M : Value → Option Value} {key v x : Value} (h : x ≠ key) : putV M key v x = M x := by unfold putV; rw [if_neg h]
section
variable {P : Program} {K : TypeId} {w : World} {b n : Nat} {M : Value → Option Value}
theorem mapV_made (P : Program) (K : TypeId) (w : World) : MapV P K (w.alloc (.map #[] 0)) w.heap.size 0 (fun _ => none) :=
  ⟨_, World.ownsMap_made w P K holdV, fun _ _ _ => ⟨by simp [Maps.has], fun z => by simp [DataW.atKey]⟩⟩
theorem MapV.lt (h : MapV P K w b n M) : b < w.heap.size := by
  obtain ⟨D, h, _⟩ := h
  exact h.lt
theorem MapV.mono (h : MapV P K w b n M) {m : Nat} (hm : n ≤ m) : MapV P K w b m M := by
  obtain ⟨D, h, h1⟩ := h
  exact ⟨D, h.mono hm, h1⟩
theorem MapV.same {w' : World} (h : MapV P K w b n M) (hb : w'.heap[b]? = w.heap[b]?) : MapV P K w' b n M := by
  obtain ⟨D, ⟨es, clock, h1, h2⟩, h3⟩ := h
  exact ⟨D, ⟨es, clock, hb.trans h1, h2⟩, h3⟩
theorem MapV.look {t e : TypeId} (h : MapV P K w b n M) (L : Keyed P K) (ht : P.underlying t = some (.map K e)) {z : Value} (hz : (zeroValue e).run P w = .ok z w) {key : Value} {kl : Lit} (hkey : keyOf P K key = some kl) :
    (Instr.lookup t (.map (some b)) key false).run P w = .ok ((M key).getD z) w := by
  obtain ⟨D, h, h1⟩ := h
  obtain ⟨v, ps, hrun, hv⟩ := h.lookup L ht hz (zd := .held z) (zp := []) rfl hkey
  rw [hrun]
  rw [(h1 key kl hkey).2, holdV] at hv
  simp only [Option.some.injEq, Prod.mk.injEq] at hv
  cases hM : M key with
  | none =>
    rw [hM] at hv
    simp only [Option.map_none, Option.getD_none, DataW.held.injEq] at hv
    rw [hv.1]
    rfl
  | some u =>
    rw [hM] at hv
    simp only [Option.map_some, Option.getD_some, DataW.held.injEq] at hv
    rw [hv.1]
    rfl
theorem MapV.lookOk {t e : TypeId} (h : MapV P K w b n M) (L : Keyed P K) (ht : P.underlying t = some (.map K e)) {z : Value} (hz : (zeroValue e).run P w = .ok z w) {key : Value} {kl : Lit} (hkey : keyOf P K key = some kl) :
    (Instr.lookup t (.map (some b)) key true).run P w = .ok (.tuple #[(M key).getD z, .bool (M key).isSome]) w := by
  obtain ⟨D, h, h1⟩ := h
  obtain ⟨v, ps, hrun, hv⟩ := h.look_ok L ht hz (zd := .held z) (zp := []) rfl hkey
  rw [hrun, (h1 key kl hkey).1]
  rw [(h1 key kl hkey).2, holdV] at hv
  simp only [Option.some.injEq, Prod.mk.injEq] at hv
  cases hM : M key with
  | none =>
    rw [hM] at hv
    simp only [Option.map_none, Option.getD_none, DataW.held.injEq] at hv
    rw [hv.1]
    rfl
  | some u =>
    rw [hM] at hv
    simp only [Option.map_some, Option.getD_some, DataW.held.injEq] at hv
    rw [hv.1]
    rfl
theorem MapV.store {t e : TypeId} (h : MapV P K w b n M) (L : Keyed P K) (ht : P.underlying t = some (.map K e)) (hn : n < maxLen) {key v : Value} {kl : Lit} (hkey : keyOf P K key = some kl) :
    ∃ w', (Instr.mapUpdate t (.map (some b)) key v).run P w = .ok () w' ∧ MapV P K w' b (n + 1) (putV M key v) ∧ w.mapTurned w' b := by
  obtain ⟨D, h, h1⟩ := h
  obtain ⟨w', hrun, h2, h3⟩ := h.store L ht hn (d := .held v) (ps := []) hkey rfl
  refine ⟨w', hrun, ⟨_, h2, fun key' kl' hkey' => ?_⟩, h3⟩
  by_cases hk : key' = key
  · subst hk
    rw [hkey] at hkey'
    cases hkey'
    rw [putV_same]
    exact ⟨has_put_same h.isMap (L.key hkey) _, fun z => atKey_put_same h.isMap (L.key hkey) _ _⟩
  · have hne : kl' ≠ kl := fun e => hk (L.inj hkey' (e ▸ hkey))
    rw [putV_other hk, has_put_other hne, (h1 key' kl' hkey').1]
    exact ⟨rfl, fun z => by rw [atKey_put_other hne, (h1 key' kl' hkey').2]⟩
end
theorem turned_other {w w' : World} {b : Nat} (h : w.mapTurned w' b) {j : Nat} (hj : j ≠ b) : w'.heap[j]? = w.heap[j]? := by
  obtain ⟨es, c, es', c', _, rfl⟩ := h
  exact ChangeMaps.heap_setBlock_other (by assumption) _ hj
section
variable {P : Program} {w : World} {ops : Array Oper} {rest : List Oper} {o : Oper} {a : Act} {Q : Exit → Act → World → Prop}
theorem wpList_lookup_V (hg : o.guard = none) (m x : Operand) (t : TypeId) (hop : o.op = Op.lookup t m x false) (K e : TypeId) (L : Keyed P K) (ht : P.underlying t = some (.map K e)) {z : Value} (hz : (zeroValue e).run P w = .ok z w) (b n : Nat) (M : Value → Option Value)
    (hm : a.eval m = .map (some b)) (h : MapV P K w b n M) (key : Value) (hx : a.eval x = key) (hkey : ∃ kl, keyOf P K key = some kl) (hK : wpList P ops Q rest (a.put o.dst ((M key).getD z)) w) : wpList P ops Q (o :: rest) a w := by
  refine wpList_plain hg fun K' hK' => ?_
  obtain ⟨kl, hkey⟩ := hkey
  have hrun := h.look L ht hz hkey
  unfold Oper.wp
  simp [execOp, hop, hm, hx, hrun, Result.andThen]
  exact hK' _ _ hK
theorem wpList_lookupOk_V (hg : o.guard = none) (m x : Operand) (t : TypeId) (hop : o.op = Op.lookup t m x true) (K e : TypeId) (L : Keyed P K) (ht : P.underlying t = some (.map K e)) {z : Value} (hz : (zeroValue e).run P w = .ok z w) (b n : Nat) (M : Value → Option Value)
    (hm : a.eval m = .map (some b)) (h : MapV P K w b n M) (key : Value) (hx : a.eval x = key) (hkey : ∃ kl, keyOf P K key = some kl) (hK : wpList P ops Q rest (a.put o.dst (.tuple #[(M key).getD z, .bool (M key).isSome])) w) : wpList P ops Q (o :: rest) a w := by
  refine wpList_plain hg fun K' hK' => ?_
  obtain ⟨kl, hkey⟩ := hkey
  have hrun := h.lookOk L ht hz hkey
  unfold Oper.wp
  simp [execOp, hop, hm, hx, hrun, Result.andThen]
  exact hK' _ _ hK
variable {F : Fence} {nF : Nat}
end
end Go.Proofs.Ytbgojlcciealiaa
namespace Go.Proofs.Ytbgojlcciealiaa

/-- Votes: round, kind, who. -/
abbrev Vt := Int → Int → Int → Option (List UInt8)
def zeroId : List UInt8 := List.replicate 32 0
def faults (n : Int) : Int := if n = 1 then 0 else if n = 4 then 1 else if n = 7 then 2 else -1
def need (n : Int) : Int := max (2 * faults n + 1) 0
def okPut (n r k s : Int) (id : List UInt8) : Bool := decide (0 ≤ r) && decide (r < 12) && (decide (k = 0) || decide (k = 1)) && decide (0 ≤ s) && decide (s < n) && !(id == zeroId)
def putC (V : Vt) (r k s : Int) (id : List UInt8) : Vt := fun r' k' s' => if r' = r ∧ k' = k ∧ s' = s then some id else V r' k' s'
def putCode (n : Int) (V : Vt) (r k s : Int) (id : List UInt8) : Int := if okPut n r k s id = false then 1 else if (V r k s).isSome then 5 else 0
def putT (n : Int) (V : Vt) (r k s : Int) (id : List UInt8) : Vt := if okPut n r k s id = true ∧ (V r k s).isSome = false then putC V r k s id else V
/-- The votes of a kind in a round, in order. -/
def castL (n : Nat) (V : Vt) (r k : Int) : List (Nat × List UInt8) := (List.range n).filterMap fun (s : Nat) => (V r k (s : Int)).map fun f => (s, f)
def allN (n : Nat) (V : Vt) (r k : Int) : Nat := (List.range n).countP fun (s : Nat) => (V r k (s : Int)).isSome
def forN (n : Nat) (V : Vt) (r k : Int) (id : List UInt8) : Nat := (List.range n).countP fun (s : Nat) => V r k (s : Int) == some id
def sureO (n : Nat) (V : Vt) (r k : Int) : Option (List UInt8) := ((castL n V r k).find? fun p => decide (need n ≤ (forN n V r k p.2 : Int))).map (·.2)
/-- Who voted in a round, each once. -/
def presentL (n : Nat) (V : Vt) (r : Int) : List (Nat × List UInt8) := castL n V r 0 ++ (castL n V r 1).filter fun p => (V r 0 p.1).isNone
def aheadO (n : Nat) (V : Vt) (r : Int) : Option Nat := ((List.range 12).filter fun (m : Nat) => decide (r < (m : Int)) && decide (faults n < ((presentL n V m).length : Int))).getLast?

theorem countP_filterMap {α β : Type} (f : α → Option β) (p : β → Bool) (l : List α) : ((l.filterMap f).filter p).length = l.countP fun a => match f a with | some b => p b | none => false := by
  induction l with
  | nil => rfl
  | cons a l ih =>
    rw [List.countP_cons]
    cases h : f a with
    | none => rw [List.filterMap_cons_none h, ih]; simp
    | some b =>
      rw [List.filterMap_cons_some h, List.filter_cons]
      cases hp : p b <;> simp [ih, hp]
theorem castL_all (n : Nat) (V : Vt) (r k : Int) : (castL n V r k).length = allN n V r k := by
  have := countP_filterMap (fun s : Nat => (V r k s).map fun f => (s, f)) (fun _ => true) (List.range n)
  rw [List.filter_eq_self.2 (fun _ _ => rfl)] at this
  unfold castL allN
  rw [this]
  refine List.countP_congr fun s _ => ?_
  cases V r k s <;> simp
theorem castL_for (n : Nat) (V : Vt) (r k : Int) (id : List UInt8) : ((castL n V r k).filter fun p => p.2 == id).length = forN n V r k id := by
  unfold castL forN
  rw [countP_filterMap]
  refine List.countP_congr fun s _ => ?_
  cases V r k s <;> simp
theorem faults_cases {n : Int} (h : 0 ≤ faults n) : n = 1 ∧ faults n = 0 ∨ n = 4 ∧ faults n = 1 ∨ n = 7 ∧ faults n = 2 := by
  unfold faults at h ⊢
  by_cases h1 : n = 1
  · simp [h1]
  · by_cases h4 : n = 4
    · simp [h4]
    · by_cases h7 : n = 7
      · simp [h7]
      · simp [h1, h4, h7] at h
theorem mem_castL {n : Nat} {V : Vt} {r k : Int} {p : Nat × List UInt8} : p ∈ castL n V r k ↔ p.1 < n ∧ V r k p.1 = some p.2 := by
  unfold castL
  rw [List.mem_filterMap]
  constructor
  · rintro ⟨s, hs, h⟩
    rw [List.mem_range] at hs
    cases hv : V r k s with
    | none => simp [hv] at h
    | some f =>
      simp [hv] at h
      subst h
      exact ⟨hs, hv⟩
  · rintro ⟨h1, h2⟩
    exact ⟨p.1, List.mem_range.2 h1, by rw [h2]; rfl⟩
theorem countP_or_le {α : Type} (p q : α → Bool) (l : List α) (h : ∀ a ∈ l, ¬ (p a = true ∧ q a = true)) : l.countP p + l.countP q ≤ l.length := by
  induction l with
  | nil => simp
  | cons a l ih =>
    have hi := ih fun b hb => h b (List.mem_cons_of_mem _ hb)
    have ha := h a (List.mem_cons_self ..)
    rw [List.countP_cons, List.countP_cons, List.length_cons]
    cases hp : p a <;> cases hq : q a <;> simp_all <;> omega
/-- Two lots of votes that are alike at those who aren't faulty: not two unlike things are sure. -/
theorem sure_two (n f : Nat) (hn : n = 3 * f + 1) (p q : Nat → Bool) (h : ∀ s, f ≤ s → s < n → ¬ (p s = true ∧ q s = true)) (h1 : 2 * f + 1 ≤ (List.range n).countP p) (h2 : 2 * f + 1 ≤ (List.range n).countP q) : False := by
  have e : List.range n = List.range f ++ (List.range (n - f)).map (f + ·) := by
    rw [← List.range_add]
    congr 1
    omega
  rw [e, List.countP_append] at h1 h2
  have a1 : (List.range f).countP p ≤ f := by simpa using List.countP_le_length (p := p) (l := List.range f)
  have a2 : (List.range f).countP q ≤ f := by simpa using List.countP_le_length (p := q) (l := List.range f)
  have a3 := countP_or_le p q ((List.range (n - f)).map (f + ·)) (by
    intro a ha
    rw [List.mem_map] at ha
    obtain ⟨b, hb, rfl⟩ := ha
    rw [List.mem_range] at hb
    exact h _ (by omega) (by omega))
  simp only [List.length_map, List.length_range] at a3
  omega
theorem forN_one {n : Nat} (hn : 0 ≤ faults n) {V : Vt} {r k : Int} {x y : List UInt8} (hx : need n ≤ (forN n V r k x : Int)) (hy : need n ≤ (forN n V r k y : Int)) : x = y := by
  refine Classical.byContradiction fun hne => ?_
  obtain ⟨f, hf, hnf⟩ : ∃ f : Nat, faults n = (f : Int) ∧ n = 3 * f + 1 := by
    rcases faults_cases hn with ⟨h1, h2⟩ | ⟨h1, h2⟩ | ⟨h1, h2⟩
    · exact ⟨0, h2, by omega⟩
    · exact ⟨1, h2, by omega⟩
    · exact ⟨2, h2, by omega⟩
  have hneed : need n = 2 * (f : Int) + 1 := by unfold need; omega
  refine sure_two n f hnf (fun s : Nat => V r k (s : Int) == some x) (fun s : Nat => V r k (s : Int) == some y) (fun s _ _ h => ?_) (by unfold forN at hx; omega) (by unfold forN at hy; omega)
  simp only [beq_iff_eq] at h
  exact hne (Option.some.inj (h.1.symm.trans h.2))
theorem forN_mem {n : Nat} {V : Vt} {r k : Int} {x : List UInt8} (h : 0 < forN n V r k x) : ∃ s : Nat, (s, x) ∈ castL n V r k := by
  unfold forN at h
  obtain ⟨s, hs, hx⟩ := List.countP_pos_iff.1 h
  exact ⟨s, mem_castL.2 ⟨List.mem_range.1 hs, by simpa using hx⟩⟩
theorem need_pos {n : Int} (h : 0 ≤ faults n) : 1 ≤ need n := by unfold need; omega
theorem sureO_iff {n : Nat} (hn : 0 ≤ faults n) {V : Vt} {r k : Int} {x : List UInt8} : sureO n V r k = some x ↔ need n ≤ (forN n V r k x : Int) := by
  unfold sureO
  constructor
  · intro h
    rw [Option.map_eq_some_iff] at h
    obtain ⟨p, hp, rfl⟩ := h
    simpa using List.find?_some hp
  · intro h
    have hp := need_pos hn
    obtain ⟨s, hs⟩ := forN_mem (n := n) (V := V) (r := r) (k := k) (x := x) (by omega)
    cases hf : (castL n V r k).find? fun p => decide (need n ≤ (forN n V r k p.2 : Int)) with
    | none =>
      have := List.find?_eq_none.1 hf _ hs
      simp at this
      omega
    | some p =>
      have := List.find?_some hf
      simp only [decide_eq_true_eq] at this
      rw [Option.map_some, forN_one hn this h]
theorem forN_mono {n : Nat} {V V' : Vt} {r k : Int} {x : List UInt8} (h : ∀ s : Nat, s < n → V r k s = some x → V' r k s = some x) : forN n V r k x ≤ forN n V' r k x := by
  unfold forN
  refine List.countP_mono_left fun s hs hx => ?_
  rw [beq_iff_eq] at hx ⊢
  exact h s (List.mem_range.1 hs) hx
theorem allN_le (n : Nat) (V : Vt) (r k : Int) : allN n V r k ≤ n := by
  unfold allN
  simpa using List.countP_le_length (p := fun s : Nat => (V r k s).isSome) (l := List.range n)
theorem putT_keeps {n : Int} {V : Vt} {r k s : Int} {id : List UInt8} {r' k' s' : Int} {x : List UInt8} (h : V r' k' s' = some x) : putT n V r k s id r' k' s' = some x := by
  unfold putT
  split
  · rename_i hc
    unfold putC
    split
    · rename_i he
      obtain ⟨rfl, rfl, rfl⟩ := he
      rw [h] at hc
      simp at hc
    · exact h
  · exact h
end Go.Proofs.Ytbgojlcciealiaa
namespace Go.Proofs.Ytbgojlcciealiaa
open Go

/-- An array of n places. -/
def arr (n : Nat) (f : Nat → Value) : Array Value := (Array.range n).map f
theorem arr_get (n : Nat) (f : Nat → Value) (i : Nat) : (arr n f)[i]? = if i < n then some (f i) else none := by
  unfold arr
  by_cases h : i < n
  · simp [h]
  · simp [h]
theorem arr_size (n : Nat) (f : Nat → Value) : (arr n f).size = n := by simp [arr]
theorem arr_congr {n : Nat} {f g : Nat → Value} (h : ∀ i, i < n → f i = g i) : arr n f = arr n g := by
  apply Array.ext_getElem?
  intro i
  rw [arr_get, arr_get]
  by_cases hi : i < n
  · simp [hi, h i hi]
  · simp [hi]
/-! ### Operations on words, each under a name that simp does not open; the walk's spellings of them -/
/-! ### The rounds of a block -/
/-! ### The schedule of a block -/
/-! ### The last blocks -/
/-! ### Parts, one behind the other; the blocks of bytes -/
/-! ### The sum -/
end Go.Proofs.Ytbgojlcciealiaa
namespace Go.Proofs.Ytbgojlcciealiaa
open Go Go.RowKit

def Blk (w : World) (g : Nat) (t : TypeId) (cs : Array Value) : Prop := w.heap[g]? = some (.cells cs t (0, 0))
section
variable {w w' : World} {g : Nat} {t : TypeId} {cs : Array Value}
theorem Blk.lt (h : Blk w g t cs) : g < w.heap.size := by
  rcases Nat.lt_or_ge g w.heap.size with hlt | hge
  · exact hlt
  · unfold Blk at h; rw [Array.getElem?_eq_none hge] at h; cases h
theorem Blk.cell (h : Blk w g t cs) (i : Nat) : w.cell? ⟨g, i, none⟩ = cs[i]? := cell_of_row w g i cs t (0, 0) h
theorem Blk.frozen (h : Blk w g t cs) (i : Nat) : w.frozen? ⟨g, i, none⟩ = false := by
  unfold Blk at h
  simp [World.frozen?, h]
theorem Blk.new (w : World) (t : TypeId) (cs : Array Value) : Blk (w.alloc (.cells cs t)) w.heap.size t cs := heap_alloc_new w _
theorem Blk.newAt {t : TypeId} {cs cs' : Array Value} (w : World) (g : Nat) (hg : w.heap.size = g) (e : cs = cs') : Blk (w.alloc (.cells cs t)) g t cs' := by subst hg; subst e; exact heap_alloc_new w _
theorem Blk.drew (h : Blk w g t cs) : Blk w.drew g t cs := h
theorem Blk.alloc (h : Blk w g t cs) (o : Obj) : Blk (w.alloc o) g t cs := (Below.heap_alloc w o g h.lt).trans h
theorem Blk.store (h : Blk w g t cs) (i : Nat) (v : Value) : Blk (w.setCell ⟨g, i, none⟩ v) g t (cs.setIfInBounds i v) := by
  unfold Blk at h ⊢
  simp [World.setCell, Array.getElem?_modify, h]
theorem Blk.far (h : Blk w g t cs) {p : Addr} (hp : g ≠ p.block) (v : Value) : Blk (w.setCell p v) g t cs := (Below.heap_setCell w p v g hp).trans h
theorem Blk.below {B : Nat} (h : Blk w g t cs) (hb : Below B w w') (hg : g < B) : Blk w' g t cs := (hb.block g hg).trans h
theorem Blk.grown {row : Option Nat} (h : Blk w g t cs) (hb : w.grownBy w' row) (hg : some g ≠ row) : Blk w' g t cs := (hb.block g h.lt hg).trans h
theorem Blk.same {cs' : Array Value} (h : Blk w g t cs) (e : cs = cs') : Blk w g t cs' := e ▸ h
end
theorem block_add (a : Addr) (n : Nat) : (a.add n).block = a.block := by unfold Addr.add; split <;> rfl
theorem below_setRow {B : Nat} {a w : World} (h : Below B a w) {g : Nat} (hg : B ≤ g) (cs : Array Value) : Below B a (w.setRow g cs) :=
  ⟨h.os, h.tape, h.output, by rw [size_setRow]; exact h.size, fun k hk => (setRow_other w g k cs (by omega)).trans (h.block k hk)⟩
theorem Blk.setRow {w : World} {g : Nat} {t : TypeId} {cs : Array Value} (h : Blk w g t cs) (cs' : Array Value) : Blk (w.setRow g cs') g t cs' := setRow_heap w g cs cs' t (0, 0) h
theorem Blk.setRow_far {w : World} {g g' : Nat} {t : TypeId} {cs : Array Value} (h : Blk w g t cs) (hne : g ≠ g') (cs' : Array Value) : Blk (w.setRow g' cs') g t cs := (setRow_other w g' g cs' hne).trans h
end Go.Proofs.Ytbgojlcciealiaa
namespace Go.Proofs.Ytbgojlcciealiaa
open Go Go.RowKit

/-- Every block of cells but those of 'own' lies as it lay. -/
structure Keep (own : Nat → Prop) (W W' : World) : Prop where
  size : W.heap.size ≤ W'.heap.size
  cells : ∀ (b : Nat) (o : Obj), W.heap[b]? = some o → o.isCells = true → ¬ own b → W'.heap[b]? = some o
theorem Keep.trans {own : Nat → Prop} {A B C : World} (h : Keep own A B) (k : Keep own B C) : Keep own A C :=
  ⟨Nat.le_trans h.size k.size, fun b o hb ho hn => k.cells b o (h.cells b o hb ho hn) ho hn⟩
theorem Keep.of_below {own : Nat → Prop} {A B : World} (h : Below A.heap.size A B) : Keep own A B :=
  ⟨h.size, fun b _ hb _ _ => (h.block b (Array.getElem?_eq_some_iff.1 hb).1).trans hb⟩
theorem Keep.setCell {own : Nat → Prop} (W : World) (p : Addr) (v : Value) (hp : own p.block) : Keep own W (W.setCell p v) :=
  ⟨by simp [World.setCell], fun b o hb _ hn => (Below.heap_setCell W p v b (fun e => hn (e ▸ hp))).trans hb⟩
theorem Keep.setRow {own : Nat → Prop} (W : World) (g : Nat) (cs : Array Value) (hp : own g) : Keep own W (W.setRow g cs) :=
  ⟨by rw [size_setRow]; exact Nat.le_refl _, fun b o hb _ hn => (setRow_other W g b cs (fun e => hn (e ▸ hp))).trans hb⟩
theorem Keep.putObj {own : Nat → Prop} (W : World) (l : Nat) (o o' : Obj) (h : W.heap[l]? = some o) (ho : o.isCells = false) : Keep own W (W.putObj l o') :=
  ⟨by simp [World.putObj], fun b x hb hx _ => (World.putObj_heap_other (fun e => by subst e; rw [h] at hb; cases hb; rw [ho] at hx; cases hx)).trans hb⟩
theorem Blk.kept {own : Nat → Prop} {W W' : World} {g : Nat} {t : TypeId} {cs : Array Value} (h : Blk W g t cs) (k : Keep own W W') (hn : ¬ own g) : Blk W' g t cs := k.cells g _ h rfl hn
theorem keepsFrom_of_below {B : Nat} {W W' : World} (h : Below W.heap.size W W') : KeepsFrom B W W' := ⟨h.size, fun k _ _ hk _ => (h.block k (Array.getElem?_eq_some_iff.1 hk).1).trans hk⟩
theorem keepsFrom_row {B g : Nat} {t : TypeId} {cs : Array Value} {W W' : World} (hg : Blk W g t cs) (hs : W.heap.size ≤ W'.heap.size) (h : ∀ b, b ≠ g → W'.heap[b]? = W.heap[b]?) : KeepsFrom B W W' :=
  ⟨hs, fun k o _ hk ho => (h k (fun e => by subst e; unfold Blk at hg; rw [hg] at hk; cases hk; cases ho)).trans hk⟩
theorem keepsFrom_trans {B : Nat} {A C D : World} (h : KeepsFrom B A C) (k : KeepsFrom B C D) : KeepsFrom B A D :=
  ⟨Nat.le_trans h.size k.size, fun i o hi hio ho => k.same i o hi (h.same i o hi hio ho) ho⟩
/-- What abides every change from block B on. -/
def AbB {β : Type} (B : Nat) (J : β → World → Prop) : Prop := ∀ s W W', J s W → Below B W W' → J s W'
theorem AbB.putObj {β : Type} {B : Nat} {J : β → World → Prop} (h : AbB B J) {s : β} {W : World} {l : Nat} (o' : Obj) (hs : J s W) (hB : B ≤ l) (hl : l < W.heap.size) : J s (W.putObj l o') :=
  h s W _ hs ((Below.refl B W).grown (grownBy_putObj' W l o') (by omega) (fun k e => by cases e; exact hB))
theorem below_putObj {B l : Nat} {w W : World} (h : Below B w W) (o' : Obj) (hB : B ≤ l) : Below B w (W.putObj l o') :=
  h.trans ⟨rfl, rfl, rfl, by simp [World.putObj], fun k hk => World.putObj_heap_other (by omega)⟩

def ownPostC {α : Type} (B : Nat) (own : Nat → Prop) (I : List α → World → Prop) (Ix : Code → List α → World → Prop) (xs : List α) (W : World) : Exit → Act → World → Prop
  | .normal, _, W' => KeepsFrom B W W' ∧ Keep own W W' ∧ I xs W'
  | .ret, _, W' => KeepsFrom B W W' ∧ Ix .ret xs W'
  | .exit id, _, W' => KeepsFrom B W W' ∧ Ix (.exit id) xs W'
  | .goto t, _, W' => KeepsFrom B W W' ∧ Ix (.goto t) xs W'
  | .panic _, _, _ => False
  | .outgrown, _, _ => False

variable {P : Program}
end Go.Proofs.Ytbgojlcciealiaa
namespace Go.Proofs.Ytbgojlcciealiaa
open Go Go.RowKit

theorem keepsFrom_mono {B B' : Nat} {W W' : World} (h : KeepsFrom B W W') (hB : B ≤ B') : KeepsFrom B' W W' := ⟨h.size, fun k o hk => h.same k o (Nat.le_trans hB hk)⟩
theorem keepsFrom_putObj {B l : Nat} (W : World) (o : Obj) (hl : l < B) : KeepsFrom B W (W.putObj l o) := ⟨by simp [World.putObj], fun k o' hk ho _ => (World.putObj_heap_other (by omega)).trans ho⟩
/-- THE ITERATOR's CONTRACT, where the caller sees to it that Inv holds whenever a round begins: the elements are xs, in order; a round may say 'no more'. -/
def SeqD {α : Type} (P : Program) (g : Nat) (lb : Array Value) (encs : α → Array Value) (own : Nat → Prop) (Inv : World → Prop) (xs : List α) (w : World) : Prop :=
  ∀ (l : Nat) (J Jx : List α → World → Prop) (W : World), Below w.heap.size w W → AbB W.heap.size J → AbB W.heap.size Jx → (∀ s W1, J s W1 → Inv W1) →
    (∀ pre x W1, (pre ++ [x]) <+: xs → J pre W1 → YieldAt Fence.wide 0 P l (encs x) W1 fun e W' =>
      (e = .returned (.bool true) ∧ J (pre ++ [x]) W' ∧ Keep own W1 W' ∧ KeepsFrom W.heap.size W1 W') ∨ (e = .returned (.bool false) ∧ Jx (pre ++ [x]) W' ∧ KeepsFrom W.heap.size W1 W')) →
    J [] W →
    CallsIn Fence.wide 0 P g (#[.func (.yield l) #[] #[]] ++ lb) W fun e W' => (∃ v, e = .returned v) ∧ (J xs W' ∨ (∃ pre, pre <+: xs ∧ pre ≠ [] ∧ Jx pre W'))

variable {P : Program}
theorem wpIn_rangeFunc_D {α : Type} {g : Operand} {ps : Array Tmp} {assign body : Code} {Q : Exit → Act → World → Prop} {a : Act} {w : World}
    {gf : Nat} {lb : Array Value} (hg : a.eval g = .func (.func gf) #[] lb) (eg : ∀ args w, (callFunc gf args).run P w = .ok (.enter gf args) w)
    {encs : α → Array Value} {own : Nat → Prop} {Inv : World → Prop} {xs : List α} (hseq : SeqD P gf lb encs own Inv xs w) (hps : ∀ x, (encs x).size = ps.size)
    (I : List α → World → Prop) (Ix : Code → List α → World → Prop) (hI : AbB w.heap.size I) (hInv : ∀ s W, I s W → Inv W) (hIx : ∀ c, AbB w.heap.size (Ix c)) (h0 : I [] w) (Ax : α → Act → World → Prop)
    (hAx : ∀ x a' W l o o', w.heap.size ≤ l → W.heap[l]? = some o → o.isCells = false → Ax x a' W → Ax x a' (W.putObj l o'))
    (hassign : ∀ (l : Nat) (pre : List α) (x : α) (W : World) (K : Act → World → Prop), w.heap.size < W.heap.size → (pre ++ [x]) <+: xs → I pre W → (∀ a' W', KeepsFrom w.heap.size W W' → Keep own W W' → I pre W' → Ax x a' W' → K a' W') →
      assign.wpIn (Fence.wide.inRound l) 0 P (Exit.then K (fun _ _ _ => False)) { tmps := (ps.zip (encs x)).foldl (fun t (p, v) => t.setIfInBounds p v) a.tmps, defers := [] } W)
    (hbody : ∀ (l : Nat) (pre : List α) (x : α) (a' : Act) (W : World), w.heap.size ≤ l → l < W.heap.size → (pre ++ [x]) <+: xs → I pre W → Ax x a' W → body.wpIn (Fence.wide.inRound l) 0 P (ownPostC w.heap.size own I Ix (pre ++ [x]) W) a' W)
    (hdone : ∀ (D : Nat) (W : World), w.heap.size ≤ D → I xs W → W.heap[D]? = some (.deferred (some [])) → Q .normal { a with defers := { target := .collected D, args := #[] } :: a.defers } W)
    (hstop : ∀ (D : Nat) (c : Code) (pre : List α) (W : World), w.heap.size ≤ D → pre <+: xs → pre ≠ [] → Ix c pre W → W.heap[D]? = some (.deferred (some [])) → c.wpIn Fence.wide 0 P Q { a with defers := { target := .collected D, args := #[] } :: a.defers } W) :
    (Code.rangeFunc g ps assign body).wpIn Fence.wide 0 P Q a w := by
  refine wpIn_rangeFunc ?_
  intro fn hfn
  obtain ⟨rec, hrec⟩ : ∃ rec : LoopState → Option Code → Loop, rec = fun st pe => { state := st, pending := pe, fn, tmps := a.tmps, params := ps, assign, body, defers := w.heap.size } := ⟨_, rfl⟩
  obtain ⟨W1, hW1⟩ : ∃ W1, (w.alloc (.deferred (some []))).alloc (.loop (rec .ready none)) = W1 := ⟨_, rfl⟩
  have hL1 : W1.heap[w.heap.size + 1]? = some (.loop (rec .ready none)) := by
    rw [← hW1]; have := World.alloc_heap_new (w.alloc (.deferred (some []))) (.loop (rec .ready none)); rwa [World.size_alloc] at this
  have hK1 : W1.heap[w.heap.size]? = some (.deferred (some [])) := by
    rw [← hW1]; exact (Below.heap_alloc _ _ _ (by simp)).trans (World.alloc_heap_new w _)
  have hb1 : Below w.heap.size w W1 := by
    rw [← hW1]; exact ((Below.refl _ w).alloc (Nat.le_refl _) _).alloc (by simp) _
  have hs1 : W1.heap.size = w.heap.size + 2 := by rw [← hW1]; simp
  refine ⟨w.heap.size + 1, [{ target := .collected w.heap.size, args := #[] }], W1, { target := .fn (.func gf) lb, args := #[.func (.yield (w.heap.size + 1)) #[] #[]] }, W1, gf,
    #[.func (.yield (w.heap.size + 1)) #[] #[]] ++ lb, W1, ?_, ?_, fun _ _ => trivial, ?_, (fun h => by cases h), ?_⟩
  · rw [← hW1, hrec]; exact run_enterLoop_outer _ _ _ _ _
  · simp only [resolve, hg]
    simp [go_sem]
  · simp [invoke, go_sem, eg]
  · refine (hseq (w.heap.size + 1)
      (fun pre W => I pre W ∧ W.heap[w.heap.size + 1]? = some (.loop (rec .ready none)) ∧ W.heap[w.heap.size]? = some (.deferred (some [])))
      (fun pre W => ∃ c, Ix c pre W ∧ W.heap[w.heap.size + 1]? = some (.loop (rec .done (some c))) ∧ W.heap[w.heap.size]? = some (.deferred (some [])))
      W1 hb1
      (fun s A B hs hb => ⟨hI s A B hs.1 (hb.mono (by omega)), (hb.block _ (by omega)).trans hs.2.1, (hb.block _ (by omega)).trans hs.2.2⟩)
      (fun s A B hs hb => by
        obtain ⟨c, hc, hl, hk⟩ := hs
        exact ⟨c, hIx c s A B hc (hb.mono (by omega)), (hb.block _ (by omega)).trans hl, (hb.block _ (by omega)).trans hk⟩)
      (fun s A hs => hInv s A hs.1) ?_ ⟨hI _ _ _ h0 hb1, hL1, hK1⟩).mono ?_
    · -- one round
      rintro pre x W hpre ⟨hi, hl, hk⟩
      have hlt : w.heap.size + 1 < W.heap.size := (Array.getElem?_eq_some_iff.1 hl).1
      have hy := run_yield (P := P) (args := encs x) hl (by rw [hrec]; exact hps x)
      rw [hrec] at hy
      refine ⟨fn, _, assign, body, hy, roundIn_of_wpIn hfn (hassign _ pre x W _ (by omega) hpre hi ?_)⟩
      clear hy
      intro a' Wa hkfa hkpa hia hax
      replace hl := hkfa.same _ _ (by omega) hl rfl
      replace hk := hkfa.same _ _ (Nat.le_refl _) hk rfl
      replace hlt : w.heap.size + 1 < Wa.heap.size := (Array.getElem?_eq_some_iff.1 hl).1
      refine ⟨_, run_beginRound hl (by rw [hrec]), ?_⟩
      have hl2 : (Wa.putObj (w.heap.size + 1) (.loop { rec .ready none with state := .busy })).heap[w.heap.size + 1]? = some (.loop { rec .ready none with state := .busy }) := World.putObj_heap_same hlt
      have hk2 : (Wa.putObj (w.heap.size + 1) (.loop { rec .ready none with state := .busy })).heap[w.heap.size]? = some (.deferred (some [])) := (World.putObj_heap_other (by omega)).trans hk
      have hw2 : Keep own Wa (Wa.putObj (w.heap.size + 1) (.loop { rec .ready none with state := .busy })) := .putObj _ _ _ _ hl rfl
      refine wpIn_mono (hbody _ pre x a' _ (by omega) (Array.getElem?_eq_some_iff.1 hl2).1 hpre (hI.putObj _ hia (by omega) hlt) (hAx x a' _ _ _ _ (by omega) hl rfl hax)) ?_
      have fin : ∀ (jump : Option Code) (W3 : World), KeepsFrom w.heap.size (Wa.putObj (w.heap.size + 1) (.loop { rec .ready none with state := .busy })) W3 →
          (Instr.endRound (w.heap.size + 1) jump).run P W3 = .ok (.bool jump.isNone) (W3.putObj (w.heap.size + 1) (.loop (rec (if jump.isNone then .ready else .done) jump))) ∧
          W3.heap[w.heap.size + 1]? = some (.loop { rec .ready none with state := .busy }) ∧
          (W3.putObj (w.heap.size + 1) (.loop (rec (if jump.isNone then .ready else .done) jump))).heap[w.heap.size + 1]? = some (.loop (rec (if jump.isNone then .ready else .done) jump)) ∧
          (W3.putObj (w.heap.size + 1) (.loop (rec (if jump.isNone then .ready else .done) jump))).heap[w.heap.size]? = some (.deferred (some [])) := fun jump W3 hk3 => by
        have hl3 := hk3.same _ _ (by omega) hl2 rfl
        have := run_endRound (P := P) jump hl3
        rw [hrec] at this ⊢
        exact ⟨this, by rw [hrec] at hl3; exact hl3, World.putObj_heap_same (Array.getElem?_eq_some_iff.1 hl3).1, (World.putObj_heap_other (by omega)).trans (hk3.same _ _ (Nat.le_refl _) hk2 rfl)⟩
      rintro e a3 W3 hp
      cases e with
      | normal =>
        obtain ⟨hk3, hkp3, hi3⟩ := hp
        obtain ⟨hr, hl3, hl4, hk4⟩ := fin none W3 hk3
        exact ⟨_, _, hr, .inl ⟨rfl, ⟨hI.putObj _ hi3 (by omega) (Array.getElem?_eq_some_iff.1 hl3).1, hl4, hk4⟩, hkpa.trans ((hw2.trans hkp3).trans (.putObj _ _ _ _ hl3 rfl)), keepsFrom_trans (keepsFrom_mono hkfa (by omega)) (keepsFrom_trans (keepsFrom_putObj _ _ (by omega)) (keepsFrom_trans (keepsFrom_mono hk3 (by omega)) (keepsFrom_putObj _ _ (by omega))))⟩⟩
      | ret =>
        obtain ⟨hk3, hi3⟩ := hp
        obtain ⟨hr, hl3, hl4, hk4⟩ := fin (some .ret) W3 hk3
        exact ⟨_, _, hr, .inr ⟨rfl, ⟨.ret, (hIx _).putObj _ hi3 (by omega) (Array.getElem?_eq_some_iff.1 hl3).1, hl4, hk4⟩, keepsFrom_trans (keepsFrom_mono hkfa (by omega)) (keepsFrom_trans (keepsFrom_putObj _ _ (by omega)) (keepsFrom_trans (keepsFrom_mono hk3 (by omega)) (keepsFrom_putObj _ _ (by omega))))⟩⟩
      | exit id =>
        obtain ⟨hk3, hi3⟩ := hp
        obtain ⟨hr, hl3, hl4, hk4⟩ := fin (some (.exit id)) W3 hk3
        exact ⟨_, _, hr, .inr ⟨rfl, ⟨.exit id, (hIx _).putObj _ hi3 (by omega) (Array.getElem?_eq_some_iff.1 hl3).1, hl4, hk4⟩, keepsFrom_trans (keepsFrom_mono hkfa (by omega)) (keepsFrom_trans (keepsFrom_putObj _ _ (by omega)) (keepsFrom_trans (keepsFrom_mono hk3 (by omega)) (keepsFrom_putObj _ _ (by omega))))⟩⟩
      | goto t =>
        obtain ⟨hk3, hi3⟩ := hp
        obtain ⟨hr, hl3, hl4, hk4⟩ := fin (some (.goto t)) W3 hk3
        exact ⟨_, _, hr, .inr ⟨rfl, ⟨.goto t, (hIx _).putObj _ hi3 (by omega) (Array.getElem?_eq_some_iff.1 hl3).1, hl4, hk4⟩, keepsFrom_trans (keepsFrom_mono hkfa (by omega)) (keepsFrom_trans (keepsFrom_putObj _ _ (by omega)) (keepsFrom_trans (keepsFrom_mono hk3 (by omega)) (keepsFrom_putObj _ _ (by omega))))⟩⟩
      | panic ch => exact hp.elim
      | outgrown => exact hp.elim
    · rintro e W2 ⟨⟨v, rfl⟩, (⟨hi, hl, hk⟩ | ⟨pre, hSp, hne, c, hi, hl, hk⟩)⟩
      · exact ⟨none, _, by have := run_endLoop (P := P) hl (by rw [hrec]; simp); rw [hrec] at this; exact this, hdone _ _ (Nat.le_refl _) (hI.putObj _ hi (by omega) (Array.getElem?_eq_some_iff.1 hl).1) ((World.putObj_heap_other (by omega)).trans hk)⟩
      · exact ⟨some c, _, by have := run_endLoop (P := P) hl (by rw [hrec]; simp); rw [hrec] at this; exact this, hstop _ c pre _ (Nat.le_refl _) hSp hne ((hIx c).putObj _ hi (by omega) (Array.getElem?_eq_some_iff.1 hl).1) ((World.putObj_heap_other (by omega)).trans hk)⟩
end Go.Proofs.Ytbgojlcciealiaa
namespace Go.Proofs.Ytbgojlcciealiaa
open Go Go.RowKit

variable {F : Fence} {n : Nat} {P : Program} {ops : Array Oper} {rest : List Oper} {o : Oper} {a : Act} {w : World} {Q : Exit → Act → World → Prop}

theorem wpListIn_val (hF : ∀ f, F.fn f) (hgd : o.guard = none) (hd : ∀ c, o.op ≠ .defer c) (v : Value) (w' : World) (h : (execOp a.eval o).run P w = .ok (.value v) w')
    (k : wpListIn F n P ops Q rest (a.put o.dst v) w') : wpListIn F n P ops Q (o :: rest) a w := by
  refine wpListIn_plain hgd fun K hK => ?_
  unfold Oper.wpIn
  refine ⟨fun f _ => hF f, ?_⟩
  rw [Oper.semAt_plain F _ _ hd, h]
  exact hK _ _ k

theorem wpListIn_load_arr (hF : ∀ f, F.fn f) (hgd : o.guard = none) (ty : TypeId) (x : Operand) (ho : o.op = .load ty x)
    (g : Nat) (hx : a.eval x = .pointer (some ⟨g, 0, none⟩)) (t : TypeId) (cs : Array Value) (d : TypeDesc) (hg : Blk w g t cs)
    (hu : P.underlying ty = some d) (hd : (match d with | .struct _ | .array _ _ => true | _ => false) = true) (hi : (P.info? ty).map (·.size) = some cs.size)
    (h : wpListIn F n P ops Q rest (a.put o.dst (.agg cs)) w) : wpListIn F n P ops Q (o :: rest) a w := by
  refine wpListIn_val hF hgd (by rw [ho]; intro c hc; cases hc) _ w ?_ h
  simp only [execOp, ho, hx, Instr.loadAt, Instr.sureAddr, Sem.run_bind, Sem.run_pure, Result.andThen_ok, run_loadVar_row w g t ty cs (0, 0) d hg hu hd hi]

theorem wpListIn_store_arr (hF : ∀ f, F.fn f) (hgd : o.guard = none) (ty : TypeId) (x y : Operand) (ho : o.op = .store ty x y)
    (g : Nat) (cells : Array Value) (hx : a.eval x = .pointer (some ⟨g, 0, none⟩)) (hy : a.eval y = .agg cells)
    (t : TypeId) (old : Array Value) (hg : Blk w g t old) (hi : (P.info? ty).map (·.size) = some cells.size)
    (hold : old.size = cells.size) (h1 : cells.all (·.oneCell') = true)
    (h : wpListIn F n P ops Q rest (a.put o.dst undef) (w.setRow g cells)) : wpListIn F n P ops Q (o :: rest) a w := by
  refine wpListIn_plain hgd fun K hK => ?_
  unfold Oper.wpIn
  refine ⟨fun f _ => hF f, ?_⟩
  rw [Oper.semAt_plain F _ _ (by rw [ho]; intro c hc; cases hc)]
  simp only [execOp, ho, hx, hy, Instr.storeAt, Instr.sureAddr, Sem.run_bind, Sem.run_pure, Result.andThen_ok, run_storeVar_row w g t ty old cells hg hi hold h1]
  exact hK _ _ h

theorem wpListIn_store_arrW (hF : ∀ f, F.fn f) (hgd : o.guard = none) (ty : TypeId) (x y : Operand) (ho : o.op = .store ty x y)
    (g : Nat) (cells : Array Value) (hx : a.eval x = .pointer (some ⟨g, 0, none⟩)) (hy : a.eval y = .agg cells)
    (t : TypeId) (old : Array Value) (hg : Blk w g t old) (hi : (P.info? ty).map (·.size) = some cells.size)
    (hold : old.size = cells.size) (h1 : cells.all (·.oneCell') = true)
    (h : ∀ w', Blk w' g t cells → w'.heap.size = w.heap.size → Below g w w' → Keep (fun b => b = g) w w' → (∀ b, b ≠ g → w'.heap[b]? = w.heap[b]?) → wpListIn F n P ops Q rest (a.put o.dst undef) w') : wpListIn F n P ops Q (o :: rest) a w :=
  wpListIn_store_arr hF hgd ty x y ho g cells hx hy t old hg hi hold h1 (h _ (hg.setRow _) (size_setRow _ _ _) (Go.below_setRow (Below.refl _ _) (Nat.le_refl _) _) (.setRow _ _ _ rfl) (fun b hb => setRow_other w g b cells hb))

/-! ### Slices of arrays and of slices, by numbers that fit -/
theorem size_one {P : Program} {e : TypeId} (hs : (P.info? e).map (·.size) = some 1) (w : World) : (sizeOf e).run P w = .ok 1 w := by
  cases hq : P.info? e with
  | none => simp [hq] at hs
  | some i => simp [sizeOf, typeInfo, hq]; simpa [hq] using hs
variable {F : Fence} {n : Nat} {P : Program} {ops : Array Oper} {rest : List Oper} {o : Oper} {a : Act} {w : World} {Q : Exit → Act → World → Prop}
end Go.Proofs.Ytbgojlcciealiaa
namespace Go.Proofs.Ytbgojlcciealiaa
open Go Go.RowKit Go.Maps

/-- An ID as a value. -/
def idv (l : List UInt8) : Value := .agg (l.map Extern.Stop.cell).toArray
def IdOk (l : List UInt8) : Prop := l.length = 32
theorem zeroId_ok : IdOk zeroId := by unfold IdOk zeroId; simp
theorem cnt_size1 (w : World) : (sizeOf 5).run Try.prog w = .ok 1 w := size_one (by kernel_rfl) w
theorem eql_idv {l m : List UInt8} (hl : IdOk l) (hm : IdOk m) (w : World) : (binOp .eql 24 (idv l) (idv m)).run Try.prog w = .ok (.bool (l == m)) w :=
  run_eql_bytes w 24 5 32 Try.underlying24 Try.underlying5 cnt_size1 _ _ hl hm
theorem zero_idv (w : World) : (zeroValue 24).run Try.prog w = .ok (idv zeroId) w := by kernel_rfl
/-! The key of a vote. -/
def keyV (r k s : Int) : Value := .agg #[.int .i64 r, .int .i64 k, .int .i64 s]
def wfi (n : Int) : Prop := (Lit.int .i64 n).wf = true
theorem cnt_laid : laidOutB Try.prog = true := by kernel_rfl
theorem cnt_row : (117 : TypeId) < Try.prog.types.size := of_decide_eq_true (by kernel_rfl)
theorem cnt_wide : (match Try.prog.underlying 117 with | some (.array _ _) | some (.struct _) => true | _ => false) = true := by kernel_rfl
set_option maxRecDepth 100000 in
theorem cnt_law : Keyed Try.prog 117 := Keyed.of_law (deep_law_laid cnt_laid (m := 2) (by omega) cnt_row (by kernel_rfl) cnt_wide)
theorem cnt_keyType : Try.prog.keyType 117 = true := by kernel_rfl
theorem cnt_cells : Try.prog.cellsOf 117 = 3 := by kernel_rfl
theorem cnt_cells1 : Try.prog.cellsOf 3 = 1 := by kernel_rfl
theorem cnt_types : ∃ m, Try.prog.types.size = m + 1 := ⟨Try.prog.types.size - 1, by have : 0 < Try.prog.types.size := of_decide_eq_true (by kernel_rfl); omega⟩
theorem keyV_some {r k s : Int} (hr : wfi r) (hk : wfi k) (hs : wfi s) : ∃ kl, keyOf Try.prog 117 (keyV r k s) = some kl := by
  unfold wfi at hr hk hs
  obtain ⟨m, hm⟩ := cnt_types
  have hu := Try.underlying117
  refine ⟨.string (keyBytes [.int .i64 r, .int .i64 k, .int .i64 s]), ?_⟩
  unfold keyOf keyV
  simp only [hu]
  rw [if_pos (by simp [cnt_keyType, Value.formed, hu, cnt_cells]), hm]
  unfold Program.keyLits
  simp only [hu, Value.cells]
  rw [if_pos ⟨by rw [cnt_cells]; rfl, by simp⟩]
  simp [List.mapM_cons, Program.keyLits, Try.underlying3, cnt_cells1, hr, hk, hs]
theorem keyV_ne {r k s r' k' s' : Int} (h : ¬ (r' = r ∧ k' = k ∧ s' = s)) : keyV r' k' s' ≠ keyV r k s := by
  intro e
  unfold keyV at e
  injection e with e
  have := congrArg Array.toList e
  simp only [List.cons.injEq, Value.int.injEq, true_and, and_true] at this
  exact h this
/-- The map in block M, of at most n entries, holds the votes V. -/
def VotesAt (W : World) (M n : Nat) (V : Vt) : Prop := ∃ T, MapV Try.prog 117 W M n T ∧ ∀ r k s, T (keyV r k s) = (V r k s).map idv
/-- A count in block B: so many voters, and the votes V, all of them IDs. -/
structure CountAt (W : World) (B M n : Nat) (N : Int) (V : Vt) : Prop where
  blk : Blk W B 113 #[.int .i64 N, .map (some M)]
  votes : VotesAt W M n V
  ids : ∀ r k s x, V r k s = some x → IdOk x ∧ x ≠ zeroId
theorem CountAt.same {W W' : World} {B M n : Nat} {N : Int} {V : Vt} (h : CountAt W B M n N V) (hB : W'.heap[B]? = W.heap[B]?) (hM : W'.heap[M]? = W.heap[M]?) : CountAt W' B M n N V := by
  obtain ⟨h1, ⟨T, h2, h3⟩, h4⟩ := h
  refine ⟨?_, ⟨T, h2.same hM, h3⟩, h4⟩
  unfold Blk at h1 ⊢
  rw [hB]
  exact h1
theorem CountAt.ltB {W : World} {B M n : Nat} {N : Int} {V : Vt} (h : CountAt W B M n N V) : B < W.heap.size := h.blk.lt
theorem CountAt.ltM {W : World} {B M n : Nat} {N : Int} {V : Vt} (h : CountAt W B M n N V) : M < W.heap.size := by
  obtain ⟨_, ⟨T, h2, _⟩, _⟩ := h
  exact h2.lt
theorem CountAt.below {W W' : World} {B M n : Nat} {N : Int} {V : Vt} (h : CountAt W B M n N V) (hb : Below W.heap.size W W') : CountAt W' B M n N V := h.same (hb.block _ h.ltB) (hb.block _ h.ltM)
theorem CountAt.cell0 {W : World} {B M n : Nat} {N : Int} {V : Vt} (h : CountAt W B M n N V) : W.cell? ⟨B, 0, none⟩ = some (.int .i64 N) := by rw [h.blk.cell]; rfl
theorem CountAt.cell1 {W : World} {B M n : Nat} {N : Int} {V : Vt} (h : CountAt W B M n N V) : W.cell? ⟨B, 1, none⟩ = some (.map (some M)) := by rw [h.blk.cell]; rfl
end Go.Proofs.Ytbgojlcciealiaa
namespace Go.Proofs.Ytbgojlcciealiaa
open Go Go.RowKit

section
variable {P : Program} {ops : Array Oper} {rest : List Oper} {o : Oper} {a : Act} {w : World} {Q : Exit → Act → World → Prop}
theorem wpList_load_arr (hgd : o.guard = none) (ty : TypeId) (x : Operand) (ho : o.op = .load ty x) (g : Nat) (hx : a.eval x = .pointer (some ⟨g, 0, none⟩)) (t : TypeId) (cs : Array Value) (d : TypeDesc) (hg : Blk w g t cs)
    (hu : P.underlying ty = some d) (hd : (match d with | .struct _ | .array _ _ => true | _ => false) = true) (hi : (P.info? ty).map (·.size) = some cs.size)
    (h : wpList P ops Q rest (a.put o.dst (.agg cs)) w) : wpList P ops Q (o :: rest) a w := wpList_load_row hgd ty x ho g hx t cs (0, 0) d hg hu hd hi h
theorem wpList_store_arrW (hgd : o.guard = none) (ty : TypeId) (x y : Operand) (ho : o.op = .store ty x y) (g : Nat) (cells : Array Value) (hx : a.eval x = .pointer (some ⟨g, 0, none⟩)) (hy : a.eval y = .agg cells)
    (t : TypeId) (old : Array Value) (hg : Blk w g t old) (hi : (P.info? ty).map (·.size) = some cells.size) (hold : old.size = cells.size) (h1 : cells.all (·.oneCell') = true)
    (h : ∀ w', Blk w' g t cells → w'.heap.size = w.heap.size → Below g w w' → (∀ b, b ≠ g → w'.heap[b]? = w.heap[b]?) → wpList P ops Q rest (a.put o.dst undef) w') : wpList P ops Q (o :: rest) a w :=
  wpList_store_row hgd ty x y ho g cells hx hy t old hg hi hold h1 (h _ (hg.setRow _) (size_setRow _ _ _) (below_setRow (Below.refl _ _) (Nat.le_refl _) _) (fun b hb => setRow_other w g b cells hb))
end
theorem results_cell_tmp {P : Program} {fn : Func} {p q : Tmp} {ty : TypeId} (h : fn.results = #[.cell p ty, .tmp q]) (tmps : Array Value) (w : World) (g : Nat) (t : TypeId) (cs : Array Value) (d : TypeDesc)
    (hp : tmps.getD p undef = .pointer (some ⟨g, 0, none⟩)) (hg : Blk w g t cs)
    (hu : P.underlying ty = some d) (hd : (match d with | .struct _ | .array _ _ => true | _ => false) = true) (hi : (P.info? ty).map (·.size) = some cs.size) :
    (results fn tmps).run P w = .ok (.tuple #[.agg cs, tmps.getD q undef]) w := by
  have hp' : tmps[p]?.getD undef = .pointer (some ⟨g, 0, none⟩) := by simpa using hp
  simp [results, h, hp', asAddr, run_loadVar_row w g t ty cs (0, 0) d hg hu hd hi]
end Go.Proofs.Ytbgojlcciealiaa
namespace Go.Proofs.Ytbgojlcciealiaa
open Go Go.RowKit Go.Maps

def idC (l : List UInt8) : Array Value := (l.map Extern.Stop.cell).toArray
theorem idC_size {l : List UInt8} (h : IdOk l) : (idC l).size = 32 := by unfold IdOk at h; unfold idC; simpa using h
theorem idC_one (l : List UInt8) : (idC l).all (·.oneCell') = true := by
  unfold idC
  rw [Array.all_eq_true_iff_forall_mem]
  intro x hx
  simp only [List.mem_toArray, List.mem_map] at hx
  obtain ⟨b, _, rfl⟩ := hx
  rfl
theorem id_info : (Try.prog.info? 24).map (·.size) = some 32 := by kernel_rfl
theorem getD_idv (x : Option (List UInt8)) : (x.map idv).getD (idv zeroId) = idv (x.getD zeroId) := by cases x <;> rfl
section
variable {ops : Array Oper} {rest : List Oper} {o : Oper} {a : Act} {w : World} {Q : Exit → Act → World → Prop}
theorem wpList_store_idv (hgd : o.guard = none) (x y : Operand) (ho : o.op = .store 24 x y) (g : Nat) (l : List UInt8) (hx : a.eval x = .pointer (some ⟨g, 0, none⟩)) (hy : a.eval y = idv l) (hl : IdOk l)
    (t : TypeId) (old : Array Value) (hg : Blk w g t old) (hold : old.size = 32)
    (h : ∀ w', Blk w' g t (idC l) → w'.heap.size = w.heap.size → Below g w w' → (∀ b, b ≠ g → w'.heap[b]? = w.heap[b]?) → wpList Try.prog ops Q rest (a.put o.dst undef) w') : wpList Try.prog ops Q (o :: rest) a w :=
  wpList_store_arrW hgd 24 x y ho g (idC l) hx hy t old hg (by rw [idC_size hl]; exact id_info) (by rw [idC_size hl]; exact hold) (idC_one l) h
theorem wpList_load_idv (hgd : o.guard = none) (x : Operand) (ho : o.op = .load 24 x) (g : Nat) (l : List UInt8) (hx : a.eval x = .pointer (some ⟨g, 0, none⟩)) (hl : IdOk l) (t : TypeId) (hg : Blk w g t (idC l))
    (h : wpList Try.prog ops Q rest (a.put o.dst (idv l)) w) : wpList Try.prog ops Q (o :: rest) a w :=
  wpList_load_arr hgd 24 x ho g hx t (idC l) _ hg Try.underlying24 rfl (by rw [idC_size hl]; exact id_info) h
variable {F : Fence} {n : Nat}
theorem wpListIn_store_idv (hF : ∀ f, F.fn f) (hgd : o.guard = none) (x y : Operand) (ho : o.op = .store 24 x y) (g : Nat) (l : List UInt8) (hx : a.eval x = .pointer (some ⟨g, 0, none⟩)) (hy : a.eval y = idv l) (hl : IdOk l)
    (t : TypeId) (old : Array Value) (hg : Blk w g t old) (hold : old.size = 32)
    (h : ∀ w', Blk w' g t (idC l) → w'.heap.size = w.heap.size → Below g w w' → Keep (fun b => b = g) w w' → (∀ b, b ≠ g → w'.heap[b]? = w.heap[b]?) → wpListIn F n Try.prog ops Q rest (a.put o.dst undef) w') : wpListIn F n Try.prog ops Q (o :: rest) a w :=
  wpListIn_store_arrW hF hgd 24 x y ho g (idC l) hx hy t old hg (by rw [idC_size hl]; exact id_info) (by rw [idC_size hl]; exact hold) (idC_one l) h
theorem wpListIn_load_idv (hF : ∀ f, F.fn f) (hgd : o.guard = none) (x : Operand) (ho : o.op = .load 24 x) (g : Nat) (l : List UInt8) (hx : a.eval x = .pointer (some ⟨g, 0, none⟩)) (hl : IdOk l) (t : TypeId) (hg : Blk w g t (idC l))
    (h : wpListIn F n Try.prog ops Q rest (a.put o.dst (idv l)) w) : wpListIn F n Try.prog ops Q (o :: rest) a w :=
  wpListIn_load_arr hF hgd 24 x ho g hx t (idC l) _ hg Try.underlying24 rfl (by rw [idC_size hl]; exact id_info) h
end
theorem results_idv {fn : Func} {p : Tmp} (h : fn.results = #[.cell p 24]) (tmps : Array Value) (w : World) (g : Nat) (t : TypeId) (l : List UInt8) (hl : IdOk l) (hp : tmps.getD p undef = .pointer (some ⟨g, 0, none⟩)) (hg : Blk w g t (idC l)) :
    (results fn tmps).run Try.prog w = .ok (idv l) w :=
  results_cell_row h tmps w g t (idC l) (0, 0) _ hp hg Try.underlying24 rfl (by rw [idC_size hl]; exact id_info)
theorem guard_idv (x y : Operand) (l m : List UInt8) (w : World) : (eqGuard .eql 24 x y (idv l) (idv m)).run Try.prog w = .ok () w := by
  unfold eqGuard idv
  simp [go_sem]
theorem guardn_idv (x y : Operand) (l m : List UInt8) (w : World) : (eqGuard .neq 24 x y (idv l) (idv m)).run Try.prog w = .ok () w := by
  unfold eqGuard idv
  simp [go_sem]
theorem neq_idv {l m : List UInt8} (hl : IdOk l) (hm : IdOk m) (w : World) : (binOp .neq 24 (idv l) (idv m)).run Try.prog w = .ok (.bool (!(l == m))) w := by
  unfold idv
  rw [run_neq_struct, run_equalIn_bytes w 9998 24 5 32 Try.underlying24 Try.underlying5 cnt_size1 _ _ hl hm]
  rfl
/-- What was found is an ID, or the zero one. -/
theorem CountAt.idOk {W : World} {B M n : Nat} {N : Int} {V : Vt} (h : CountAt W B M n N V) (r k s : Int) : IdOk ((V r k s).getD zeroId) := by
  cases hv : V r k s with
  | none => exact zeroId_ok
  | some x => exact (h.ids r k s x hv).1
set_option maxRecDepth 100000 in
set_option maxHeartbeats 4000000 in
theorem faults_any (n : Int) (w : World) : Calls Try.prog 18 #[.int .i64 n] w fun e w' => e = .returned (.int .i64 (faults n)) ∧ w' = w := by
  by_cases h1 : n = 1
  · subst h1
    go_enter Try.func18, Try.ntmps18
    go_wp2_with fail
    go_ret
    exact ⟨rfl, rfl⟩
  by_cases h4 : n = 4
  · subst h4
    go_enter Try.func18, Try.ntmps18
    go_wp2_with fail
    go_ret
    exact ⟨rfl, rfl⟩
  by_cases h7 : n = 7
  · subst h7
    go_enter Try.func18, Try.ntmps18
    go_wp2_with fail
    go_ret
    exact ⟨rfl, rfl⟩
  have e1 : (n == 1) = false := beq_eq_false_iff_ne.2 h1
  have e4 : (n == 4) = false := beq_eq_false_iff_ne.2 h4
  have e7 : (n == 7) = false := beq_eq_false_iff_ne.2 h7
  have hf : faults n = -1 := by unfold faults; rw [if_neg h1, if_neg h4, if_neg h7]
  rw [hf]
  clear hf
  go_enter Try.func18, Try.ntmps18
  go_wp2_with fail
  go_ret
  exact ⟨rfl, rfl⟩
set_option maxRecDepth 100000 in
set_option maxHeartbeats 4000000 in
theorem need_any (n : Int) (w : World) : Calls Try.prog 19 #[.int .i64 n] w fun e w' => e = .returned (.int .i64 (need n)) ∧ w' = w := by
  have hf : faults n = -1 ∨ faults n = 0 ∨ faults n = 1 ∨ faults n = 2 := by
    unfold faults
    repeat' split
    all_goals simp
  have HF := Lib.hid fun W => faults_any n W
  unfold need
  generalize faults n = f at HF hf
  rcases hf with rfl | rfl | rfl | rfl
  all_goals
    go_enter Try.func19, Try.ntmps19
    go_wp2_with (first
      | (go_at_call 18; refine (HF.out _).mono ?_; rintro e W1 ⟨rfl, h1⟩; obtain rfl := h1.symm))
    go_ret
    exact ⟨rfl, rfl⟩
/-- What is voted for by who votes for nothing. -/
def nilId : List UInt8 := List.replicate 31 0 ++ [1]
theorem nilId_ok : IdOk nilId := by unfold IdOk nilId; simp
set_option maxRecDepth 100000 in
set_option maxHeartbeats 4000000 in
theorem nil_any (w : World) : Calls Try.prog 35 #[] w fun e w' => e = .returned (idv nilId) ∧ Below w.heap.size w w' := by
  go_enter Try.func35, Try.ntmps35
  go_wp2_with (first
    | (guard_target = wpList _ _ _ (Oper.mk _ (.store 24 _ _) _ _ _ _ :: _) _ _; refine wpList_store_idv rfl _ _ rfl w.heap.size nilId rfl (by kernel_rfl) nilId_ok 24 _ (Blk.newAt _ _ rfl rfl) rfl ?_; intro W9 hS9 hz9 hb9 hk9))
  refine bodyPost_ret (results_idv rfl _ _ w.heap.size 24 nilId nilId_ok rfl hS9) rfl ?_
  exact ⟨rfl, ((Below.refl _ w).alloc (Nat.le_refl _) _).trans hb9⟩
set_option maxRecDepth 100000 in
set_option maxHeartbeats 4000000 in
theorem has_any {W : World} {B M n : Nat} {N : Int} {V : Vt} (h : CountAt W B M n N V) (r k s : Int) (hr : wfi r) (hk : wfi k) (hs : wfi s) :
    Calls Try.prog 52 #[.pointer (some ⟨B, 0, none⟩), .int .i64 r, .int .i64 k, .int .i64 s] W fun e w' => e = .returned (.bool (V r k s).isSome) ∧ Below W.heap.size W w' := by
  have c1 := h.cell1
  have hok := h.idOk r k s
  obtain ⟨T, hT, hV⟩ := h.votes
  have hkey := keyV_some hr hk hs
  have hv := hV r k s
  have HT := Lib.hid hT
  have HKEY := Lib.hid hkey
  have HOK := Lib.hid hok
  clear hT hkey hV h hok
  go_enter Try.func52, Try.ntmps52
  go_wp2_with (first
    | (at_lookup; refine wpList_lookupOk_V rfl _ _ _ rfl 117 24 cnt_law Try.underlying111 (zero_idv _) M n T rfl HT.out (keyV r k s) rfl HKEY.out ?_; rw [hv, Option.isSome_map, getD_idv])
    | (guard_target = wpList _ _ _ (Oper.mk _ (.store 24 _ _) _ _ _ _ :: _) _ _; refine wpList_store_idv rfl _ _ rfl W.heap.size _ rfl rfl HOK.out 24 _ (Blk.newAt _ _ rfl rfl) rfl ?_; intro W9 hS9 hz9 hb9 hk9; clear hS9 hz9 hk9))
  go_ret
  exact ⟨rfl, ((Below.refl _ W).alloc (Nat.le_refl _) _).trans hb9⟩
set_option maxRecDepth 100000 in
set_option maxHeartbeats 4000000 in
theorem get_any {W : World} {B M n : Nat} {N : Int} {V : Vt} (h : CountAt W B M n N V) (r k s : Int) (hr : wfi r) (hk : wfi k) (hs : wfi s) :
    Calls Try.prog 30 #[.pointer (some ⟨B, 0, none⟩), .int .i64 r, .int .i64 k, .int .i64 s] W fun e w' => e = .returned (idv ((V r k s).getD zeroId)) ∧ Below W.heap.size W w' := by
  have hok := h.idOk r k s
  obtain ⟨T, hT, hV⟩ := h.votes
  have hkey := keyV_some hr hk hs
  have hv := hV r k s
  have HC := Lib.hid h
  have HT0 := Lib.hid hT
  have HKEY := Lib.hid hkey
  have HOK := Lib.hid hok
  clear hT hkey hV h hok
  go_enter Try.func30, Try.ntmps30
  go_upto_region 1 with fail
  generalize hW : World.alloc W _ = W1
  have hb1 : Below W.heap.size W W1 := by rw [← hW]; exact (Below.refl _ _).alloc (Nat.le_refl _) _
  have k8 : ∃ old, Blk W1 W.heap.size 24 old ∧ old.size = 32 := by rw [← hW]; exact ⟨_, Blk.newAt _ _ rfl rfl, rfl⟩
  have c1 := (HC.out.below hb1).cell1
  have HT := Lib.hid (HT0.out.same (hb1.block _ HT0.out.lt))
  have HB1 := Lib.hid hb1
  have HK := Lib.hid k8
  clear hW hb1 k8
  go_wp2_with (first
    | (at_lookup; refine wpList_lookup_V rfl _ _ _ rfl 117 24 cnt_law Try.underlying111 (zero_idv _) M n T rfl HT.out (keyV r k s) rfl HKEY.out ?_; rw [hv, getD_idv])
    | (guard_target = wpList _ _ _ (Oper.mk _ (.store 24 _ _) _ _ _ _ :: _) _ _; obtain ⟨old, hk, hs⟩ := HK.out; refine wpList_store_idv rfl _ _ rfl W.heap.size _ rfl rfl HOK.out 24 _ hk hs ?_; intro W9 hS9 hz9 hb9 hk9))
  refine bodyPost_ret (results_idv rfl _ _ W.heap.size 24 _ HOK.out rfl hS9) rfl ?_
  exact ⟨rfl, HB1.out.trans hb9⟩
end Go.Proofs.Ytbgojlcciealiaa
namespace Go.Proofs.Ytbgojlcciealiaa

def noVotes : Vt := fun _ _ _ => none
theorem nz1 {α : Type} (xs : List α) (i : Nat) (a : α) : xs.toArray.setIfInBounds i a = (xs.set i a).toArray := List.setIfInBounds_toArray xs i a
theorem nz2 {α : Type} (x a : α) (xs : List α) : (x :: xs).set 0 a = a :: xs := List.set_cons_zero
theorem nz3 {α : Type} (x a : α) (xs : List α) (n : Nat) : (x :: xs).set (n + 1) a = x :: xs.set n a := List.set_cons_succ
theorem tkH {P : Program} {md : Region.Mode} {ops : Array Oper} {Q : Exit → Act → World → Prop} {S : World → Prop} {v : Value} {fuel : Nat} {listed : Array Bool} {a : Act} {w : World} (i : Nat) (oi : Oper) (hi : ops[i]? = some oi) (hy : YieldsIf P ops S oi v a)
    (h : wpAnyH P md ops Q S fuel (listed.setIfInBounds i true) (a.put oi.dst v) w) (hs : Region.noSelect ops = true := by kernel_rfl) (hf : Region.free md ops listed i = true := by kernel_rfl) (hr : (Region.ready md ops listed).contains i = true := by kernel_rfl)
    (hQ : ∀ c a w, Q (.panic c) (a.put oi.dst v) w → Q (.panic c) a w := by exact fun _ _ _ h => h) (hS : S w := by assumption) : wpAnyH P md ops Q S (fuel + 1) listed a w := wpAnyH_take hi hs hf hr hQ hy hS h
end Go.Proofs.Ytbgojlcciealiaa
