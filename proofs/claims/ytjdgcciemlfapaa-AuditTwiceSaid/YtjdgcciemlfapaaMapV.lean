/-
  A map whose keys are of one kind, as a function from keys to values: made, looked up (with and without ok), stored into. Whatever values it holds. No condition.
-/
import Derived.Maps.OwnIn
import Derived.Maps.OwnSet
import Derived.DeepKeys4
namespace Go.Proofs.Ytjdgcciemlfapaa
open Go Go.RowKit Go.Maps

/-- A value reads as itself. -/
def holdV (v : Value) : Option (DataW Value × List MemPlace) := some (.held v, [])
/-- Block b is a map of at most n entries that holds M. -/
def MapV (P : Program) (K : TypeId) (w : World) (b n : Nat) (M : Value → Option Value) : Prop :=
  ∃ D : DataW Value, w.ownsMap P K holdV b n D ∧ ∀ key kl, keyOf P K key = some kl → Maps.has D kl = (M key).isSome ∧ ∀ z, D.atKey kl z = ((M key).map DataW.held).getD z
open Classical in
/-- One more entry. -/
noncomputable def putV (M : Value → Option Value) (key v : Value) : Value → Option Value := fun x => if x = key then some v else M x
theorem putV_same (M : Value → Option Value) (key v : Value) : putV M key v key = some v := by unfold putV; rw [if_pos rfl]
theorem putV_other {M : Value → Option Value} {key v x : Value} (h : x ≠ key) : putV M key v x = M x := by unfold putV; rw [if_neg h]
section
variable {P : Program} {K : TypeId} {w : World} {b n : Nat} {M : Value → Option Value}
theorem mapV_made (P : Program) (K : TypeId) (w : World) : MapV P K (w.alloc (.map #[] 0)) w.heap.size 0 (fun _ => none) :=
  ⟨_, World.ownsMap_made w P K holdV, fun _ _ _ => ⟨by simp [Maps.has], fun z => by simp [DataW.atKey]⟩⟩
theorem MapV.lt (h : MapV P K w b n M) : b < w.heap.size := by
  obtain ⟨D, h, _⟩ := h
  exact h.lt
theorem MapV.mono (h : MapV P K w b n M) {m : Nat} (hm : n ≤ m) : MapV P K w b m M := by
  obtain ⟨D, h, h1⟩ := h
  exact ⟨D, h.mono hm, h1⟩
theorem MapV.same {w' : World} (h : MapV P K w b n M) (hb : w'.heap[b]? = w.heap[b]?) : MapV P K w' b n M := by
  obtain ⟨D, ⟨es, clock, h1, h2⟩, h3⟩ := h
  exact ⟨D, ⟨es, clock, hb.trans h1, h2⟩, h3⟩
theorem MapV.lookOk {t e : TypeId} (h : MapV P K w b n M) (L : Keyed P K) (ht : P.underlying t = some (.map K e)) {z : Value} (hz : (zeroValue e).run P w = .ok z w) {key : Value} {kl : Lit} (hkey : keyOf P K key = some kl) :
    (Instr.lookup t (.map (some b)) key true).run P w = .ok (.tuple #[(M key).getD z, .bool (M key).isSome]) w := by
  obtain ⟨D, h, h1⟩ := h
  obtain ⟨v, ps, hrun, hv⟩ := h.look_ok L ht hz (zd := .held z) (zp := []) rfl hkey
  rw [hrun, (h1 key kl hkey).1]
  rw [(h1 key kl hkey).2, holdV] at hv
  simp only [Option.some.injEq, Prod.mk.injEq] at hv
  cases hM : M key with
  | none =>
    rw [hM] at hv
    simp only [Option.map_none, Option.getD_none, DataW.held.injEq] at hv
    rw [hv.1]
    rfl
  | some u =>
    rw [hM] at hv
    simp only [Option.map_some, Option.getD_some, DataW.held.injEq] at hv
    rw [hv.1]
    rfl
theorem MapV.store {t e : TypeId} (h : MapV P K w b n M) (L : Keyed P K) (ht : P.underlying t = some (.map K e)) (hn : n < maxLen) {key v : Value} {kl : Lit} (hkey : keyOf P K key = some kl) :
    ∃ w', (Instr.mapUpdate t (.map (some b)) key v).run P w = .ok () w' ∧ MapV P K w' b (n + 1) (putV M key v) ∧ w.mapTurned w' b := by
  obtain ⟨D, h, h1⟩ := h
  obtain ⟨w', hrun, h2, h3⟩ := h.store L ht hn (d := .held v) (ps := []) hkey rfl
  refine ⟨w', hrun, ⟨_, h2, fun key' kl' hkey' => ?_⟩, h3⟩
  by_cases hk : key' = key
  · subst hk
    rw [hkey] at hkey'
    cases hkey'
    rw [putV_same]
    exact ⟨has_put_same h.isMap (L.key hkey) _, fun z => atKey_put_same h.isMap (L.key hkey) _ _⟩
  · have hne : kl' ≠ kl := fun e => hk (L.inj hkey' (e ▸ hkey))
    rw [putV_other hk, has_put_other hne, (h1 key' kl' hkey').1]
    exact ⟨rfl, fun z => by rw [atKey_put_other hne, (h1 key' kl' hkey').2]⟩
end
theorem turned_size {w w' : World} {b : Nat} (h : w.mapTurned w' b) : w'.heap.size = w.heap.size := by
  obtain ⟨es, c, es', c', _, rfl⟩ := h
  simp [ChangeMaps.setBlock]
theorem turned_other {w w' : World} {b : Nat} (h : w.mapTurned w' b) {j : Nat} (hj : j ≠ b) : w'.heap[j]? = w.heap[j]? := by
  obtain ⟨es, c, es', c', _, rfl⟩ := h
  exact ChangeMaps.heap_setBlock_other (by assumption) _ hj
theorem turned_rest {w w' : World} {b : Nat} (h : w.mapTurned w' b) : w'.os = w.os ∧ w'.tape = w.tape ∧ w'.output = w.output := by
  obtain ⟨es, c, es', c', _, rfl⟩ := h
  exact ⟨rfl, rfl, rfl⟩
section
variable {P : Program} {w : World} {ops : Array Oper} {rest : List Oper} {o : Oper} {a : Act} {Q : Exit → Act → World → Prop}
theorem wpList_lookupOk_V (hg : o.guard = none) (m x : Operand) (t : TypeId) (hop : o.op = Op.lookup t m x true) (K e : TypeId) (L : Keyed P K) (ht : P.underlying t = some (.map K e)) {z : Value} (hz : (zeroValue e).run P w = .ok z w) (b n : Nat) (M : Value → Option Value)
    (hm : a.eval m = .map (some b)) (h : MapV P K w b n M) (key : Value) (hx : a.eval x = key) (hkey : ∃ kl, keyOf P K key = some kl) (hK : wpList P ops Q rest (a.put o.dst (.tuple #[(M key).getD z, .bool (M key).isSome])) w) : wpList P ops Q (o :: rest) a w := by
  refine wpList_plain hg fun K' hK' => ?_
  obtain ⟨kl, hkey⟩ := hkey
  have hrun := h.lookOk L ht hz hkey
  unfold Oper.wp
  simp [execOp, hop, hm, hx, hrun, Result.andThen]
  exact hK' _ _ hK
theorem wpList_store_V (hg : o.guard = none) (m x v : Operand) (t : TypeId) (hop : o.op = Op.mapUpdate t m x v) (K e : TypeId) (L : Keyed P K) (ht : P.underlying t = some (.map K e)) (b n : Nat) (M : Value → Option Value)
    (hm : a.eval m = .map (some b)) (h : MapV P K w b n M) (hn : n < maxLen) (key val : Value) (hx : a.eval x = key) (hv : a.eval v = val) (hkey : ∃ kl, keyOf P K key = some kl)
    (hK : ∀ w', MapV P K w' b (n + 1) (putV M key val) → w.mapTurned w' b → wpList P ops Q rest (a.put o.dst undef) w') : wpList P ops Q (o :: rest) a w := by
  refine wpList_plain hg fun K' hK' => ?_
  obtain ⟨kl, hkey⟩ := hkey
  obtain ⟨w', hrun, r1, r2⟩ := h.store L ht hn (v := val) hkey
  unfold Oper.wp
  simp [execOp, hop, hm, hx, hv, hrun, Result.andThen]
  exact hK' _ _ (hK w' r1 r2)
variable {F : Fence} {nF : Nat}
end
end Go.Proofs.Ytjdgcciemlfapaa
