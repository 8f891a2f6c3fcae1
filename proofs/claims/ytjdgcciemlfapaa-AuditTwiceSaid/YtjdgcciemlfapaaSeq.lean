/-
  A range over a function whose iterator keeps state of its own in cells: the iterator's contract ('SeqC': the elements are known, in order) and the law for the caller. After the guide's wpIn_rangeFunc_ownH; the turn: the caller's invariant abides whatever lies below the heap that the loop began with, and the body keeps every block of cells but its own. No condition.
-/
import Derived.RangeFuncNested
import Derived.RangeFuncBound
import Derived.RangeFuncCalls
import Derived.RangeFuncLeaves
import Derived.Test.YtjdgcciemlfapaaBlk
namespace Go.Proofs.Ytjdgcciemlfapaa
open Go Go.RowKit

/-- Every block of cells but those of 'own' lies as it lay. -/
structure Keep (own : Nat → Prop) (W W' : World) : Prop where
  size : W.heap.size ≤ W'.heap.size
  cells : ∀ (b : Nat) (o : Obj), W.heap[b]? = some o → o.isCells = true → ¬ own b → W'.heap[b]? = some o
theorem Keep.refl (own : Nat → Prop) (W : World) : Keep own W W := ⟨Nat.le_refl _, fun _ _ h _ _ => h⟩
theorem Keep.trans {own : Nat → Prop} {A B C : World} (h : Keep own A B) (k : Keep own B C) : Keep own A C :=
  ⟨Nat.le_trans h.size k.size, fun b o hb ho hn => k.cells b o (h.cells b o hb ho hn) ho hn⟩
theorem Keep.of_below {own : Nat → Prop} {A B : World} (h : Below A.heap.size A B) : Keep own A B :=
  ⟨h.size, fun b _ hb _ _ => (h.block b (Array.getElem?_eq_some_iff.1 hb).1).trans hb⟩
theorem Keep.setCell {own : Nat → Prop} (W : World) (p : Addr) (v : Value) (hp : own p.block) : Keep own W (W.setCell p v) :=
  ⟨by simp [World.setCell], fun b o hb _ hn => (Below.heap_setCell W p v b (fun e => hn (e ▸ hp))).trans hb⟩
theorem Keep.putObj {own : Nat → Prop} (W : World) (l : Nat) (o o' : Obj) (h : W.heap[l]? = some o) (ho : o.isCells = false) : Keep own W (W.putObj l o') :=
  ⟨by simp [World.putObj], fun b x hb hx _ => (World.putObj_heap_other (fun e => by subst e; rw [h] at hb; cases hb; rw [ho] at hx; cases hx)).trans hb⟩
theorem Blk.kept {own : Nat → Prop} {W W' : World} {g : Nat} {t : TypeId} {cs : Array Value} (h : Blk W g t cs) (k : Keep own W W') (hn : ¬ own g) : Blk W' g t cs := k.cells g _ h rfl hn
theorem cell_keep {own : Nat → Prop} {W W' : World} {a : Addr} {v : Value} (k : Keep own W W') (hn : ¬ own a.block) (h : W.cell? a = some v) : W'.cell? a = some v := by
  obtain ⟨o, ho, hc⟩ := cells_of_cell h
  exact (World.cell?_of_block ((k.cells _ o ho hc hn).trans ho.symm)).trans h

theorem keepsFrom_of_below {B : Nat} {W W' : World} (h : Below W.heap.size W W') : KeepsFrom B W W' := ⟨h.size, fun k _ _ hk _ => (h.block k (Array.getElem?_eq_some_iff.1 hk).1).trans hk⟩
theorem keepsFrom_row {B g : Nat} {t : TypeId} {cs : Array Value} {W W' : World} (hg : Blk W g t cs) (hs : W.heap.size ≤ W'.heap.size) (h : ∀ b, b ≠ g → W'.heap[b]? = W.heap[b]?) : KeepsFrom B W W' :=
  ⟨hs, fun k o _ hk ho => (h k (fun e => by subst e; unfold Blk at hg; rw [hg] at hk; cases hk; cases ho)).trans hk⟩
theorem keepsFrom_trans {B : Nat} {A C D : World} (h : KeepsFrom B A C) (k : KeepsFrom B C D) : KeepsFrom B A D :=
  ⟨Nat.le_trans h.size k.size, fun i o hi hio ho => k.same i o hi (h.same i o hi hio ho) ho⟩
/-- What abides every change from block B on. -/
def AbB {β : Type} (B : Nat) (J : β → World → Prop) : Prop := ∀ s W W', J s W → Below B W W' → J s W'
theorem AbB.putObj {β : Type} {B : Nat} {J : β → World → Prop} (h : AbB B J) {s : β} {W : World} {l : Nat} (o' : Obj) (hs : J s W) (hB : B ≤ l) (hl : l < W.heap.size) : J s (W.putObj l o') :=
  h s W _ hs ((Below.refl B W).grown (grownBy_putObj' W l o') (by omega) (fun k e => by cases e; exact hB))
theorem below_putObj {B l : Nat} {w W : World} (h : Below B w W) (o' : Obj) (hB : B ≤ l) : Below B w (W.putObj l o') :=
  h.trans ⟨rfl, rfl, rfl, by simp [World.putObj], fun k hk => World.putObj_heap_other (by omega)⟩

def ownPostC {α : Type} (B : Nat) (own : Nat → Prop) (I : List α → World → Prop) (Ix : Code → List α → World → Prop) (xs : List α) (W : World) : Exit → Act → World → Prop
  | .normal, _, W' => KeepsFrom B W W' ∧ Keep own W W' ∧ I xs W'
  | .ret, _, W' => KeepsFrom B W W' ∧ Ix .ret xs W'
  | .exit id, _, W' => KeepsFrom B W W' ∧ Ix (.exit id) xs W'
  | .goto t, _, W' => KeepsFrom B W W' ∧ Ix (.goto t) xs W'
  | .panic _, _, _ => False
  | .outgrown, _, _ => False

variable {P : Program}
end Go.Proofs.Ytjdgcciemlfapaa
