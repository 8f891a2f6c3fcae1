/-
  Which blocks a call may have turned: 'Turn S a w': every block of a that is not in S is as it was. Nothing here names the program. No condition.
-/
import Derived.Test.YtgpbpdjamimbfaaDoorRd
namespace Go.Proofs.YtgpbpdjamimbfaaDoor
open Go Go.RowKit

structure Turn (S : Nat → Prop) (a w : World) : Prop where
  os : w.os = a.os
  tape : w.tape = a.tape
  output : w.output = a.output
  size : a.heap.size ≤ w.heap.size
  block : ∀ k, k < a.heap.size → ¬ S k → w.heap[k]? = a.heap[k]?
section
variable {S S' : Nat → Prop} {a b w : World}
theorem Turn.refl (S : Nat → Prop) (w : World) : Turn S w w := ⟨rfl, rfl, rfl, Nat.le_refl _, fun _ _ _ => rfl⟩
theorem Turn.trans (h : Turn S a b) (k : Turn S' b w) (hs : ∀ i, i < a.heap.size → S' i → S i) : Turn S a w :=
  ⟨k.os.trans h.os, k.tape.trans h.tape, k.output.trans h.output, Nat.le_trans h.size k.size, fun i hi hn => (k.block i (Nat.lt_of_lt_of_le hi h.size) (fun e => hn (hs i hi e))).trans (h.block i hi hn)⟩
theorem Turn.mono (h : Turn S a w) (hs : ∀ i, i < a.heap.size → S i → S' i) : Turn S' a w := ⟨h.os, h.tape, h.output, h.size, fun i hi hn => h.block i hi (fun e => hn (hs i hi e))⟩
theorem Turn.drewN (h : Turn S a w) (n : Nat) : Turn S a (w.drewN n) := ⟨h.os, h.tape, h.output, h.size, h.block⟩
theorem Turn.setCell (h : Turn S a w) {p : Addr} (hp : p.block < a.heap.size → S p.block) (u : Value) : Turn S a (w.setCell p u) :=
  ⟨h.os, h.tape, h.output, by simpa [World.setCell] using h.size, fun i hi hn => (Below.heap_setCell w p u i (by rintro rfl; exact hn (hp hi))).trans (h.block i hi hn)⟩
theorem Turn.grown {row : Option Nat} (h : Turn S a w) {w' : World} (hg : w.grownBy w' row) (hr : ∀ k, row = some k → k < a.heap.size → S k) : Turn S a w' :=
  ⟨hg.os.trans h.os, hg.tape.trans h.tape, hg.output.trans h.output, Nat.le_trans h.size hg.size, fun i hi hn => (hg.block i (Nat.lt_of_lt_of_le hi h.size) (fun e => hn (hr i e.symm hi))).trans (h.block i hi hn)⟩
theorem Turn.of_below {B : Nat} (h : Below B a w) : Turn (fun k => B ≤ k) a w := ⟨h.os, h.tape, h.output, h.size, fun i _ hn => h.block i (by omega)⟩
/-- Nothing old has turned. -/
theorem Turn.of_new (h : Below a.heap.size a w) (S : Nat → Prop) : Turn S a w := ⟨h.os, h.tape, h.output, h.size, fun i hi _ => h.block i hi⟩
theorem Turn.below {B : Nat} (h : Turn S a w) (hB : B ≤ a.heap.size) (hs : ∀ i, i < B → ¬ S i) : Below B a w := ⟨h.os, h.tape, h.output, h.size, fun i hi => h.block i (by omega) (hs i hi)⟩
theorem Turn.cell (h : Turn S a w) {p : Addr} {x : Value} (hx : a.cell? p = some x) (hp : ¬ S p.block) : w.cell? p = some x :=
  (World.cell?_of_block (h.block p.block (World.block_lt_of_cell? a p hx) hp)).trans hx
theorem Turn.frozen (h : Turn S a w) {p : Addr} (hl : p.block < a.heap.size) (hp : ¬ S p.block) : w.frozen? p = a.frozen? p := World.frozen?_of_block (h.block p.block hl hp)
theorem Turn.rd {ok : Nat → Prop} {v : Value} {bs : List UInt8} (h : Turn S a w) (hr : RdB a ok v bs) (hs : ∀ b, ok b → ¬ S b) : RdB w ok v bs := hr.kept fun _ _ ha hx => h.cell hx (hs _ ha)
theorem Turn.blk {g : Nat} {t : TypeId} {cs : Array Value} (h : Turn S a w) (hb : Blk a g t cs) (hs : ¬ S g) : Blk w g t cs := (h.block g hb.lt hs).trans hb
theorem Turn.own {B n k : Nat} {e : TypeId} {v : Value} {xs : List Value} (h : Turn S a w) (ho : a.ownsRow B e k v n xs) (hs : ∀ g, v.ownBlock = some g → ¬ S g) : w.ownsRow B e k v n xs := by
  refine ⟨ho.1, ?_⟩
  rcases ho.2 with h0 | ⟨g, cap, cur, rfl, h2, h3, h4⟩
  · exact .inl h0
  · exact .inr ⟨g, cap, cur, rfl, h2, (h.block g (Blk.lt h3) (hs g rfl)).trans h3, h4⟩
end
/-- An append onto a row of the call's own, of a slice of bytes that reads as cs: which blocks have turned. -/
theorem app_turn {B : Nat} {w : World} (hB : B ≤ w.heap.size) {v : Value} {n : Nat} {bs : List UInt8} (hown : w.ownsRow B 5 1 v n (bs.map bv))
    {ok : Nat → Prop} {A : Option Addr} {m c : Nat} {cs : List UInt8} (hr : RdB w ok (.slice A m c) cs) (h63 : n + m ≤ 140737488351232) :
    ∃ v' w', (Builtin.append_ #[42, 42] 42 #[v, .slice A m c]).run Tryd.prog w = .ok v' w' ∧
      w'.ownsRow B 5 1 v' (n + m) ((bs ++ cs).map bv) ∧ w.grownBy w' v.ownBlock ∧ (v'.ownBlock = v.ownBlock ∨ v'.ownBlock = some w.heap.size) := by
  obtain ⟨i0, hi, hz0, hz1, hz2⟩ := info_parts info_u8
  obtain ⟨v', w', hrun, hown', hgr, hv⟩ := run_append_rd (P := Tryd.prog) w B 42 42 5 i0 (.int .u8 0) Tryd.underlying42 hi hz0 hz1 hz2 rfl v n _ hown ok A m c cs hr (by omega) hB
  exact ⟨v', w', hrun, by rw [List.map_append]; exact hown', hgr, hv⟩
theorem own_len {w : World} {B n k : Nat} {e : TypeId} {v : Value} {xs : List Value} (h : w.ownsRow B e k v n xs) : ∃ A c, v = .slice A n c ∧ n ≤ c := by
  rcases h.2 with ⟨rfl, rfl⟩ | ⟨g, cap, _, rfl, _, _, hc, _⟩
  · exact ⟨none, 0, rfl, Nat.le_refl _⟩
  · exact ⟨_, cap, rfl, hc⟩
/-- The first of a row's elements. -/
theorem own_cut {w : World} {B n k : Nat} {e : TypeId} {A : Option Addr} {c : Nat} {xs : List Value} (h : w.ownsRow B e 1 (.slice A n c) n xs) (hk : k ≤ n) : w.ownsRow B e 1 (.slice A k c) k (xs.take k) := by
  refine ⟨by rw [List.length_take, h.1]; omega, ?_⟩
  rcases h.2 with ⟨hv, h0⟩ | ⟨g, cap, cur, hv, h1, h2, h3, h4, h5, h6⟩
  · injection hv with e1 e2 e3
    subst e1; subst e3
    exact .inl ⟨by rw [show k = 0 from by omega], by omega⟩
  · injection hv with e1 e2 e3
    subst e1; subst e3
    refine .inr ⟨g, c, cur, rfl, h1, h2, by omega, h4, h5, ?_⟩
    rw [← h6, List.take_take]
    congr 1
    omega
/-- A row's bytes, read. -/
theorem own_read {w : World} {B n : Nat} {v : Value} {bs : List UInt8} (h : w.ownsRow B 5 1 v n (bs.map bv)) (hm : n ≤ 140737488351232) : RdB w (fun b => v.ownBlock = some b ∧ B ≤ b ∧ b < w.heap.size) v bs := by
  have hn : bs.length = n := by simpa using h.1
  obtain ⟨A, c, hv, h1, h2, h3⟩ := rdB_own h hn hm
  refine ⟨A, c, hv, h1, h2, fun h0 => ?_⟩
  obtain ⟨ad, hA, hok, hc⟩ := h3 h0
  exact ⟨ad, hA, ⟨by rw [hv, hA]; rfl, hok⟩, hc⟩
end Go.Proofs.YtgpbpdjamimbfaaDoor
