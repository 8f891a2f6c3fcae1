/-
  Slices of bytes as lists, read and appended to; rows of the call's own: nothing here names a function of the program. No condition.
-/
import Derived.Test.YtphknicdllcbmaaDoorOps
import Derived.Test.YtphknicdllcbmaaDoorProg
import Derived.Lib.AppendZerosOnto
import Derived.Maps.AppendAt
import Derived.Shelf.Abstract
namespace Go.Proofs.YtphknicdllcbmaaDoor
open Go Go.RowKit Go.Shelf

/-- A slice of bytes that reads as bs, in blocks that 'ok' lets in. -/
def RdB (W : World) (ok : Nat → Prop) (v : Value) (bs : List UInt8) : Prop :=
  ∃ A c, v = .slice A bs.length c ∧ bs.length ≤ c ∧ bs.length ≤ 140737488351232 ∧ (0 < bs.length → ∃ ad : Addr, A = some ad ∧ ok ad.block ∧ ∀ j, j < bs.length → W.cell? (ad.add j) = some (bv (bs.getD j 0)))
/-- A slice of slices of bytes. -/
def RdP (W : World) (ok : Nat → Prop) (A : Option Addr) (ps : List (List UInt8)) : Prop :=
  ∀ k, k < ps.length → ∃ ad v, A = some ad ∧ ok ad.block ∧ W.cell? (ad.add k) = some v ∧ RdB W ok v (ps.getD k [])
theorem RdB.kept {W W' : World} {ok : Nat → Prop} {v : Value} {bs : List UInt8} (h : RdB W ok v bs) (hk : ∀ (a : Addr) (x : Value), ok a.block → W.cell? a = some x → W'.cell? a = some x) : RdB W' ok v bs := by
  obtain ⟨A, c, hv, h1, h2, h3⟩ := h
  refine ⟨A, c, hv, h1, h2, fun h0 => ?_⟩
  obtain ⟨ad, hA, hok, hc⟩ := h3 h0
  exact ⟨ad, hA, hok, fun j hj => hk _ _ (by rw [block_add]; exact hok) (hc j hj)⟩
theorem RdP.kept {W W' : World} {ok : Nat → Prop} {A : Option Addr} {ps : List (List UInt8)} (h : RdP W ok A ps) (hk : ∀ (a : Addr) (x : Value), ok a.block → W.cell? a = some x → W'.cell? a = some x) : RdP W' ok A ps := fun k hlt => by
  obtain ⟨ad, v, hA, hok, hc, hr⟩ := h k hlt
  exact ⟨ad, v, hA, hok, hk _ _ (by rw [block_add]; exact hok) hc, hr.kept hk⟩

theorem RdB.cut {W : World} {ok : Nat → Prop} {A : Option Addr} {r c k : Nat} {xs : List UInt8} (h : RdB W ok (.slice A r c) xs) (hk : k ≤ r) : RdB W ok (.slice (cutA A c k) (r - k) (c - k)) (xs.drop k) := by
  obtain ⟨A', c', hv, h1, h2, h3⟩ := h
  injection hv with e1 e2 e3
  subst e1; subst e2; subst e3
  refine ⟨cutA A c k, c - k, by rw [List.length_drop], by rw [List.length_drop]; omega, by rw [List.length_drop]; omega, fun h0 => ?_⟩
  rw [List.length_drop] at h0
  obtain ⟨ad, rfl, hok, hc⟩ := h3 (by omega)
  have hne : ¬ c = k := by omega
  refine ⟨ad.add k, by simp [cutA, hne], by rw [block_add]; exact hok, fun j hj => ?_⟩
  rw [List.length_drop] at hj
  rw [add_add, hc (k + j) (by omega), List.getD_eq_getElem?_getD, List.getD_eq_getElem?_getD, List.getElem?_drop]
theorem add_zero_block (g j : Nat) : (⟨g, 0, none⟩ : Addr).add j = ⟨g, j, none⟩ := by unfold Addr.add; split <;> simp_all
theorem rdB_blk {W : World} {ok : Nat → Prop} {g t n c N : Nat} {f : Nat → Value} {bs : List UInt8} (h : Blk W g t (arr N f)) (hf : ∀ i, i < n → f i = bv (bs.getD i 0)) (hn : bs.length = n) (hN : n ≤ N) (hc : n ≤ c) (hm : n ≤ 140737488351232) (hok : ok g) :
    RdB W ok (.slice (some ⟨g, 0, none⟩) n c) bs := by
  subst hn
  refine ⟨_, c, rfl, hc, hm, fun _ => ⟨_, rfl, hok, fun j hj => ?_⟩⟩
  rw [add_zero_block, h.cell, arr_get, if_pos (by omega), hf j hj]
theorem RdB.mono {W : World} {ok ok' : Nat → Prop} {v : Value} {bs : List UInt8} (h : RdB W ok v bs) (hm : ∀ b, ok b → ok' b) : RdB W ok' v bs := by
  obtain ⟨A, c, h1, h2, h3, h4⟩ := h
  refine ⟨A, c, h1, h2, h3, fun h0 => ?_⟩
  obtain ⟨ad, q1, q2, q3⟩ := h4 h0
  exact ⟨ad, q1, hm _ q2, q3⟩
theorem ownsRow_forms' {w : World} {base size n : Nat} {e : TypeId} {v : Value} {xs : List Value} (h : w.ownsRow base e size v n xs) : (v = .slice none 0 0 ∧ n = 0) ∨ ∃ g cap, v = .slice (some ⟨g, 0, none⟩) n cap := by
  rcases h.2 with h0 | ⟨g, cap, _, hv, _⟩
  · exact Or.inl h0
  · exact Or.inr ⟨g, cap, hv⟩
section
variable {P : Program}
theorem oper_append {o : Oper} {a : Act} {w : World} {K : Act → World → Prop} {Q : Exit → Act → World → Prop} (s x : Operand) (t t' : TypeId) (ho : o.op = .call { callee := .builtin .append, args := #[s, x], argTypes := #[t, t'] })
    (vs vx : Value) (hs : a.eval s = vs) (hx : a.eval x = vx) (v : Value) (w' : World) (hrun : (Builtin.append_ #[t, t'] o.type #[vs, vx]).run P w = .ok v w') (h : K (a.put o.dst v) w') : Oper.wp P o a w K Q := by
  unfold Oper.wp
  simp [execOp, ho, resolve, invoke, builtin, hs, hx, hrun, Result.andThen, Oper.upon]
  exact h
theorem wpList_append_run {ops : Array Oper} {rest : List Oper} {o : Oper} {a : Act} {w : World} {Q : Exit → Act → World → Prop} (hgd : o.guard = none) (s x : Operand) (t t' : TypeId) (ho : o.op = .call { callee := .builtin .append, args := #[s, x], argTypes := #[t, t'] })
    (vs vx : Value) (hs : a.eval s = vs) (hx : a.eval x = vx) (v : Value) (w' : World) (hrun : (Builtin.append_ #[t, t'] o.type #[vs, vx]).run P w = .ok v w') (h : wpList P ops Q rest (a.put o.dst v) w') : wpList P ops Q (o :: rest) a w :=
  wpList_plain hgd fun _ hK => oper_append s x t t' ho vs vx hs hx v w' hrun (hK _ _ h)
end
end Go.Proofs.YtphknicdllcbmaaDoor
