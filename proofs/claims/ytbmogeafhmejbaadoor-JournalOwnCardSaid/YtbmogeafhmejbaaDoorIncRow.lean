/-
  A row of bytes of the call's own of which each becomes another one; a copy of bytes made by an append. No condition.
-/
import Derived.Test.YtbmogeafhmejbaaDoorTurn
namespace Go.Proofs.YtbmogeafhmejbaaDoor
open Go Go.RowKit Go.Shelf

theorem set_ints {cs : Array Value} {n : Nat} (h : ∀ j, j < n → ∃ y : Int, cs[j]? = some (.int .u8 y)) (k : Nat) (z : Int) : ∀ j, j < n → ∃ y : Int, (cs.setIfInBounds k (.int .u8 z))[j]? = some (.int .u8 y) := fun j hj => by
  obtain ⟨y, hy⟩ := h j hj
  rw [Array.getElem?_setIfInBounds]
  have hs : j < cs.size := by
    rcases Nat.lt_or_ge j cs.size with h' | h'
    · exact h'
    · rw [Array.getElem?_eq_none h'] at hy; cases hy
  by_cases hkj : k = j
  · subst hkj; exact ⟨z, by simp [hs]⟩
  · exact ⟨y, by simp [hkj, hy]⟩
/-- A row of bytes of which each becomes another one: nothing else turns. -/
def IncRel (W wr : World) (A : Option Addr) (n : Nat) : Prop := (∀ G, A = some ⟨G, 0, none⟩ → 0 < n → ∃ cs, Blk wr G 5 cs ∧ ∀ j, j < n → ∃ y : Int, cs[j]? = some (.int .u8 y)) ∧ Turn (fun i => A = some ⟨i, 0, none⟩) W wr
theorem inc_start {W : World} {B n c : Nat} {A : Option Addr} {bs : List UInt8} (h : W.ownsRow B 5 1 (.slice A n c) n (bs.map bv)) : IncRel W W A n := by
  refine ⟨fun G hA hn => ?_, Turn.refl _ _⟩
  rcases h.2 with ⟨_, h0⟩ | ⟨g, cap, cur, hv, h1, h2, h3, h4, h5, h6⟩
  · omega
  · injection hv with e1 e2 e3
    rw [hA] at e1
    injection e1 with e1
    injection e1 with e1 _ _
    subst e1
    refine ⟨cur, h2, fun j hj => ?_⟩
    have hl : bs.length = n := by simpa using h.1
    have e : cur.toList[j]? = (bs.map bv)[j]? := by rw [← h6, List.getElem?_take_of_lt (by omega)]
    rw [Array.getElem?_toList, List.getElem?_map, List.getElem?_eq_getElem (by omega)] at e
    exact ⟨_, e⟩
theorem inc_open {W wr : World} {G n k : Nat} (h : IncRel W wr (some ⟨G, 0, none⟩) n) (hk : k < n) : ∃ y : Int, wr.cell? ⟨G, k, none⟩ = some (.int .u8 y) ∧ wr.frozen? ⟨G, k, none⟩ = false ∧ ∀ z : Int, IncRel W (wr.setCell ⟨G, k, none⟩ (.int .u8 z)) (some ⟨G, 0, none⟩) n := by
  obtain ⟨cs, hb, hy⟩ := h.1 G rfl (by omega)
  obtain ⟨y, hyk⟩ := hy k hk
  refine ⟨y, (hb.cell k).trans hyk, hb.frozen k, fun z => ⟨fun G' hG _ => ?_, h.2.setCell (p := ⟨G, k, none⟩) (fun _ => rfl) _⟩⟩
  injection hG with hG
  injection hG with hG _ _
  subst hG
  exact ⟨_, hb.store k _, set_ints hy k z⟩
theorem own_addr {W : World} {B n c : Nat} {A : Option Addr} {xs : List Value} (h : W.ownsRow B 5 1 (.slice A n c) n xs) (hn : 0 < n) : ∃ G, A = some ⟨G, 0, none⟩ := by
  rcases ownsRow_forms' h with ⟨_, h0⟩ | ⟨g, cap, hv⟩
  · omega
  · injection hv with e1 _ _
    exact ⟨g, e1⟩
theorem own_block_of {A : Option Addr} {n c i : Nat} (h : A = some ⟨i, 0, none⟩) : (Value.slice A n c).ownBlock = some i := by rw [h]; rfl
/-- A copy of bytes, made by an append to an empty slice. -/
theorem mine_part {W : World} {ok : Nat → Prop} {A : Option Addr} {n c : Nat} {bs : List UInt8} (hr : RdB W ok (.slice A n c) bs) (hok : ∀ i, ok i → i < W.heap.size) (hn : n ≤ 1048576) :
    ∃ A' c' w3, (Builtin.append_ #[42, 42] 42 #[.slice (some ⟨W.heap.size, 0, none⟩) 0 0, .slice A n c]).run Tryd.prog (W.alloc (.cells #[] 5)) = .ok (.slice A' n c') w3 ∧
      w3.ownsRow W.heap.size 5 1 (.slice A' n c') n (bs.map bv) ∧ Below W.heap.size W w3 := by
  have hb0 : Below W.heap.size W (W.alloc (.cells #[] 5)) := (Below.refl _ _).alloc (Nat.le_refl _) _
  have own0 : (W.alloc (.cells #[] 5)).ownsRow W.heap.size 5 1 (.slice (some ⟨W.heap.size, 0, none⟩) 0 0) 0 (([] : List UInt8).map bv) := ⟨rfl, .inr ⟨W.heap.size, 0, #[], rfl, Nat.le_refl _, heap_alloc_new W _, Nat.le_refl _, by unfold maxLen; omega, rfl, rfl⟩⟩
  obtain ⟨v', w', hrun, hown, hgr, hv⟩ := app_turn (B := W.heap.size) (by simp) own0 (hr.kept (W' := W.alloc (.cells #[] 5)) fun a x ha h => (hb0.cell (p := a) (hok _ ha)).trans h) (by omega)
  rw [Nat.zero_add, List.nil_append] at hown
  obtain ⟨A', c', rfl, _⟩ := own_len hown
  exact ⟨A', c', w', hrun, hown, hb0.grown hgr (by simp) fun k hk => by
    simp only [Value.ownBlock, Option.some.injEq] at hk
    omega⟩
end Go.Proofs.YtbmogeafhmejbaaDoor
