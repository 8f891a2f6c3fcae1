/-
  Appends within a region that draws its order, onto rows of the call's own; what sum.Of tells of one part that was put together so; two sums in one variable, read as slices. No conditions of their own.
-/
import Derived.Test.YtghjdelijmlemaaDoorLeaf
import Derived.Test.YtghjdelijmlemaaDoorConcat
import Derived.Test.YtghjdelijmlemaaDoorLawStands
namespace Go.Proofs.YtghjdelijmlemaaDoor
open Go Go.RowKit Go.Shelf

section
variable {P : Program}
theorem oper_append {o : Oper} {a : Act} {w : World} {K : Act → World → Prop} {Q : Exit → Act → World → Prop} (s x : Operand) (t t' : TypeId) (ho : o.op = .call { callee := .builtin .append, args := #[s, x], argTypes := #[t, t'] })
    (vs vx : Value) (hs : a.eval s = vs) (hx : a.eval x = vx) (v : Value) (w' : World) (hrun : (Builtin.append_ #[t, t'] o.type #[vs, vx]).run P w = .ok v w') (h : K (a.put o.dst v) w') : Oper.wp P o a w K Q := by
  unfold Oper.wp
  simp [execOp, ho, resolve, invoke, builtin, hs, hx, hrun, Result.andThen, Oper.upon]
  exact h
end
theorem ownsRow_kept {B : Nat} {e : TypeId} {k : Nat} {v : Value} {n : Nat} {xs : List Value} {w w' : World} (h : w.ownsRow B e k v n xs) (hb : Below w.heap.size w w') : w'.ownsRow B e k v n xs := by
  refine ⟨h.1, ?_⟩
  rcases h.2 with h0 | ⟨g, cap, cur, h1, h2, h3, h4⟩
  · exact .inl h0
  · refine .inr ⟨g, cap, cur, h1, h2, (hb.block g ?_).trans h3, h4⟩
    rcases Nat.lt_or_ge g w.heap.size with h' | h'
    · exact h'
    · rw [Array.getElem?_eq_none h'] at h3; cases h3
theorem own_one (w : World) (B : Nat) (hB : B ≤ w.heap.size) (x : UInt8) : (w.alloc (.cells #[bv x] 5)).ownsRow B 5 1 (.slice (some ⟨w.heap.size, 0, none⟩) 1 1) 1 ([x].map bv) :=
  ⟨rfl, .inr ⟨w.heap.size, 1, #[bv x], rfl, hB, heap_alloc_new w _, Nat.le_refl _, by unfold maxLen; omega, rfl, rfl⟩⟩
theorem app_step {B : Nat} {W w : World} (hb : Below B W w) (hB : B ≤ w.heap.size) {v : Value} {n : Nat} {bs : List UInt8} (hown : w.ownsRow B 5 1 v n (bs.map bv)) (hn : 0 < n)
    {ok : Nat → Prop} {A : Option Addr} {m c : Nat} {cs : List UInt8} (hr : RdB w ok (.slice A m c) cs) (h63 : n + m ≤ 140737488351232) :
    ∃ g cap w', (Builtin.append_ #[24, 24] 24 #[v, .slice A m c]).run Tryd.prog w = .ok (.slice (some ⟨g, 0, none⟩) (n + m) cap) w' ∧
      w'.ownsRow B 5 1 (.slice (some ⟨g, 0, none⟩) (n + m) cap) (n + m) ((bs ++ cs).map bv) ∧ Below B W w' ∧ B ≤ w'.heap.size := by
  obtain ⟨i0, hi, hz0, hz1, hz2⟩ := info_parts info_u8
  obtain ⟨v', w', hrun, hown', hgr, _⟩ := run_append_rd (P := Tryd.prog) w B 24 24 5 i0 (.int .u8 0) Tryd.underlying24 hi hz0 hz1 hz2 rfl v n _ hown ok A m c cs hr (by omega) hB
  have hb' := hb.grown hgr hB (fun k hk => (hown.lt k hk).1)
  have hs := hgr.size
  rcases ownsRow_forms' hown' with ⟨_, h0⟩ | ⟨g, cap, rfl⟩
  · omega
  · exact ⟨g, cap, w', hrun, by rw [List.map_append]; exact hown', hb', by omega⟩
theorem of_own {W w : World} (hT : Tables W) (hb : Below W.heap.size W w) {g n cap : Nat} {bs : List UInt8} (hown : w.ownsRow W.heap.size 5 1 (.slice (some ⟨g, 0, none⟩) n cap) n (bs.map bv)) (hn : bs.length = n) (hm : n ≤ 1099511627776) :
    Calls Tryd.prog 10 #[.slice (some ⟨w.heap.size, 0, none⟩) 1 1] (w.alloc (.cells #[.slice (some ⟨g, 0, none⟩) n cap] 24)) fun e w' => e = .returned (shaV bs) ∧ Below (w.alloc (.cells #[.slice (some ⟨g, 0, none⟩) n cap] 24)).heap.size (w.alloc (.cells #[.slice (some ⟨g, 0, none⟩) n cap] 24)) w' := by
  have hrd := rdB_own hown hn (by omega)
  have hal : Below w.heap.size w (w.alloc (.cells #[.slice (some ⟨g, 0, none⟩) n cap] 24)) := (Below.refl _ _).alloc (Nat.le_refl _) _
  have hz := hal.size
  have b1 : Blk (w.alloc (.cells #[.slice (some ⟨g, 0, none⟩) n cap] 24)) w.heap.size 24 #[.slice (some ⟨g, 0, none⟩) n cap] := Blk.new w _ _
  have := callsIn_wide.1 (of_any (some ⟨w.heap.size, 0, none⟩) 1 [bs] (by simp) (by simp; omega) _ (hT.below (hb.alloc hb.size _)) (fun k hk => by
    obtain rfl : k = 0 := by simp at hk; omega
    exact ⟨_, _, rfl, b1.lt, by rw [add_zero_block, b1.cell]; rfl, (hrd.kept fun a x ha h => (hal.cell (p := a) ha.2).trans h).mono fun b hb => Nat.lt_of_lt_of_le hb.2 hz⟩))
  simpa using this
theorem rd_at {W : World} {g t o : Nat} {f : Nat → UInt8} (h : Blk W g t (arr 64 fun i => bv (f i))) (ho : o + 32 ≤ 64) : RdB W (fun b => b < W.heap.size) (.slice (some ⟨g, o, none⟩) 32 32) (id32 fun i => f (o + i)) := by
  refine ⟨some ⟨g, o, none⟩, 32, by simp [id32], by simp [id32], by simp [id32], fun _ => ⟨⟨g, o, none⟩, rfl, h.lt, fun j hj => ?_⟩⟩
  have hj' : j < 32 := by simpa [id32] using hj
  have e : (⟨g, o, none⟩ : Addr).add j = ⟨g, o + j, none⟩ := by simp [Addr.add]
  rw [e, h.cell, arr_get, if_pos (by omega)]
  simp [id32, hj']
end Go.Proofs.YtghjdelijmlemaaDoor
