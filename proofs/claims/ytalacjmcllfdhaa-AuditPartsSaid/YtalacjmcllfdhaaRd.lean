/-
  Slices of bytes as lists, read and appended to; rows of the call's own: nothing here names a function of the program. No condition.
-/
import Derived.Test.YtalacjmcllfdhaaOps
import Derived.Test.YtalacjmcllfdhaaProg
import Derived.Lib.AppendZerosOnto
import Derived.Maps.AppendAt
import Derived.Shelf.Abstract
namespace Go.Proofs.Ytalacjmcllfdhaa
open Go Go.RowKit Go.Shelf

/-- A slice of bytes that reads as bs, in blocks that 'ok' lets in. -/
def RdB (W : World) (ok : Nat → Prop) (v : Value) (bs : List UInt8) : Prop :=
  ∃ A c, v = .slice A bs.length c ∧ bs.length ≤ c ∧ bs.length ≤ 140737488351232 ∧ (0 < bs.length → ∃ ad : Addr, A = some ad ∧ ok ad.block ∧ ∀ j, j < bs.length → W.cell? (ad.add j) = some (bv (bs.getD j 0)))
/-- A slice of slices of bytes. -/
def RdP (W : World) (ok : Nat → Prop) (A : Option Addr) (ps : List (List UInt8)) : Prop :=
  ∀ k, k < ps.length → ∃ ad v, A = some ad ∧ ok ad.block ∧ W.cell? (ad.add k) = some v ∧ RdB W ok v (ps.getD k [])
theorem RdB.kept {W W' : World} {ok : Nat → Prop} {v : Value} {bs : List UInt8} (h : RdB W ok v bs) (hk : ∀ (a : Addr) (x : Value), ok a.block → W.cell? a = some x → W'.cell? a = some x) : RdB W' ok v bs := by
  obtain ⟨A, c, hv, h1, h2, h3⟩ := h
  refine ⟨A, c, hv, h1, h2, fun h0 => ?_⟩
  obtain ⟨ad, hA, hok, hc⟩ := h3 h0
  exact ⟨ad, hA, hok, fun j hj => hk _ _ (by rw [block_add]; exact hok) (hc j hj)⟩
theorem RdP.kept {W W' : World} {ok : Nat → Prop} {A : Option Addr} {ps : List (List UInt8)} (h : RdP W ok A ps) (hk : ∀ (a : Addr) (x : Value), ok a.block → W.cell? a = some x → W'.cell? a = some x) : RdP W' ok A ps := fun k hlt => by
  obtain ⟨ad, v, hA, hok, hc, hr⟩ := h k hlt
  exact ⟨ad, v, hA, hok, hk _ _ (by rw [block_add]; exact hok) hc, hr.kept hk⟩

theorem add_zero_block (g j : Nat) : (⟨g, 0, none⟩ : Addr).add j = ⟨g, j, none⟩ := by unfold Addr.add; split <;> simp_all
theorem RdB.mono {W : World} {ok ok' : Nat → Prop} {v : Value} {bs : List UInt8} (h : RdB W ok v bs) (hm : ∀ b, ok b → ok' b) : RdB W ok' v bs := by
  obtain ⟨A, c, h1, h2, h3, h4⟩ := h
  refine ⟨A, c, h1, h2, h3, fun h0 => ?_⟩
  obtain ⟨ad, q1, q2, q3⟩ := h4 h0
  exact ⟨ad, q1, hm _ q2, q3⟩
theorem ownsRow_kept {B : Nat} {e : TypeId} {k : Nat} {v : Value} {n : Nat} {xs : List Value} {w w' : World} (h : w.ownsRow B e k v n xs) (hb : Below w.heap.size w w') : w'.ownsRow B e k v n xs := by
  refine ⟨h.1, ?_⟩
  rcases h.2 with h0 | ⟨g, cap, cur, h1, h2, h3, h4⟩
  · exact .inl h0
  · refine .inr ⟨g, cap, cur, h1, h2, (hb.block g ?_).trans h3, h4⟩
    rcases Nat.lt_or_ge g w.heap.size with h' | h'
    · exact h'
    · rw [Array.getElem?_eq_none h'] at h3; cases h3
section
variable {P : Program}
theorem oper_append {o : Oper} {a : Act} {w : World} {K : Act → World → Prop} {Q : Exit → Act → World → Prop} (s x : Operand) (t t' : TypeId) (ho : o.op = .call { callee := .builtin .append, args := #[s, x], argTypes := #[t, t'] })
    (vs vx : Value) (hs : a.eval s = vs) (hx : a.eval x = vx) (v : Value) (w' : World) (hrun : (Builtin.append_ #[t, t'] o.type #[vs, vx]).run P w = .ok v w') (h : K (a.put o.dst v) w') : Oper.wp P o a w K Q := by
  unfold Oper.wp
  simp [execOp, ho, resolve, invoke, builtin, hs, hx, hrun, Result.andThen, Oper.upon]
  exact h
theorem wpList_append_run {ops : Array Oper} {rest : List Oper} {o : Oper} {a : Act} {w : World} {Q : Exit → Act → World → Prop} (hgd : o.guard = none) (s x : Operand) (t t' : TypeId) (ho : o.op = .call { callee := .builtin .append, args := #[s, x], argTypes := #[t, t'] })
    (vs vx : Value) (hs : a.eval s = vs) (hx : a.eval x = vx) (v : Value) (w' : World) (hrun : (Builtin.append_ #[t, t'] o.type #[vs, vx]).run P w = .ok v w') (h : wpList P ops Q rest (a.put o.dst v) w') : wpList P ops Q (o :: rest) a w :=
  wpList_plain hgd fun _ hK => oper_append s x t t' ho vs vx hs hx v w' hrun (hK _ _ h)
end
end Go.Proofs.Ytalacjmcllfdhaa
