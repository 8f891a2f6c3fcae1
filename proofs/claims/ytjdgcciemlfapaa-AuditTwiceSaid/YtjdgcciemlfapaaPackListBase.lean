/-
  What pack.readList wants: the maker of the iterator over runs, an append of one value onto a row of the call's own, what holds between two entries. For entries of any number.
-/
import Derived.Test.YtjdgcciemlfapaaPackRuns
import Derived.Test.YtjdgcciemlfapaaPackOps
namespace Go.Proofs.Ytjdgcciemlfapaa
open Go Go.RowKit PackMath
attribute [local go_sem] Oper.semAt_some

/-- The iterator's elements and the runs. -/
theorem steps_all (s : List UInt8) : (∃ es : List (List UInt8), runs s = some es ∧ steps s = es.map some) ∨ (runs s = none ∧ ∃ es : List (List UInt8), steps s = es.map some ++ [none]) := by
  generalize hn : s.length = n
  induction n using Nat.strongRecOn generalizing s with
  | _ n ih =>
    by_cases h : s = []
    · subst h
      exact .inl ⟨[], by rw [runs, dif_pos rfl], steps_nil⟩
    · cases e : take3 s with
      | none =>
        refine .inr ⟨?_, [], by rw [steps_none h e]; rfl⟩
        rw [runs, dif_neg h]
        split
        · rfl
        · rename_i x r e'
          rw [e] at e'; cases e'
      | some xr =>
        obtain ⟨x, r⟩ := xr
        have hr : runs s = (runs r).map (x :: ·) := by
          rw [runs, dif_neg h]
          split
          · rename_i e'
            rw [e] at e'; cases e'
          · rename_i x' r' e'
            rw [e] at e'
            injection e' with e'
            injection e' with h1 h2
            rw [h1, h2]
        rw [hr, steps_some h e]
        rcases ih r.length (by have := take3_short e; omega) r rfl with ⟨es, h1, h2⟩ | ⟨h1, es, h2⟩
        · exact .inl ⟨x :: es, by rw [h1]; rfl, by rw [h2]; rfl⟩
        · exact .inr ⟨by rw [h1]; rfl, x :: es, by rw [h2]; rfl⟩
theorem results_cells {P : Program} {fn : Func} {p q : Tmp} {ty ty' : TypeId} (h : fn.results = #[.cell p ty, .cell q ty']) (tmps : Array Value) (w : World) (a b : Addr) (x y : Value)
    (hp : tmps.getD p undef = .pointer (some a)) (hq : tmps.getD q undef = .pointer (some b)) (hx : (Go.loadVar ty a).run P w = .ok x w) (hy : (Go.loadVar ty' b).run P w = .ok y w) :
    (results fn tmps).run P w = .ok (.tuple #[x, y]) w := by
  have hp' : tmps[p]?.getD undef = .pointer (some a) := by simpa using hp
  have hq' : tmps[q]?.getD undef = .pointer (some b) := by simpa using hq
  simp [results, h, hp', hq', asAddr, hx, hy]
theorem run_loadVar_cell {P : Program} {ty : TypeId} {d : TypeDesc} {a : Addr} {v : Value} {w : World} (hu : P.underlying ty = some d) (hd : (match d with | .struct _ | .array _ _ => true | _ => false) = false) (hc : w.cell? a = some v) :
    (Go.loadVar ty a).run P w = .ok v w := by
  have hagg : (isAgg ty).run P w = .ok false w := by
    unfold isAgg
    rw [Sem.run_bind, run_underlying hu w]
    cases d <;> simp_all
  simp [loadVar, Sem.run_bind, hagg, hc, go_sem]
theorem steps_some_only {s : List UInt8} {es : List (List UInt8)} (h : steps s = es.map some) : runs s = some es := by
  rcases steps_all s with ⟨es', h1, h2⟩ | ⟨_, es', h2⟩
  · rw [h] at h2
    rw [h1, (List.map_inj_right fun x y e => Option.some.inj e).1 h2]
  · rw [h] at h2
    have : (none : Option (List UInt8)) ∈ es.map some := by rw [h2]; simp
    simp at this
theorem steps_none_in {s : List UInt8} {pre : List (Option (List UInt8))} (h : pre <+: steps s) (hn : none ∈ pre) : runs s = none := by
  rcases steps_all s with ⟨es', h1, h2⟩ | ⟨h1, es', h2⟩
  · have := h.subset hn
    rw [h2] at this
    simp at this
  · exact h1
/-- One value more. -/
theorem info_row : (Try.prog.info? 24).map (fun i => (i.zero, i.size, i.bytes)) = some (some (.slice none 0 0), 1, 24) := by kernel_rfl
theorem app_val {B : Nat} {w : World} (hB : B ≤ w.heap.size) {v : Value} {n : Nat} {xs : List Value} (hown : w.ownsRow B 24 1 v n xs) (x : Value) (hx : x.oneCell' = true) {g0 : Nat} (hg0 : Blk w g0 24 #[x]) (hn : n ≤ 1000) :
    ∃ g cap w', (Builtin.append_ #[26, 26] 26 #[v, .slice (some ⟨g0, 0, none⟩) 1 1]).run Try.prog w = .ok (.slice (some ⟨g, 0, none⟩) (n + 1) cap) w' ∧
      w'.ownsRow B 24 1 (.slice (some ⟨g, 0, none⟩) (n + 1) cap) (n + 1) (xs ++ [x]) ∧ w.grownBy w' v.ownBlock ∧ (v.ownBlock = some g ∨ g = w.heap.size) := by
  obtain ⟨i0, hi, hz0, hz1, hz2⟩ := info_parts info_row
  obtain ⟨v', w', hrun, hown', hgr, _, hbl⟩ := run_append_own_at (P := Try.prog) w B 26 26 24 i0 (.slice none 0 0) 1 24 Try.underlying26 hi hz0 hz1 hz2 rfl (by omega) v n xs hown ⟨g0, 0, none⟩ 1 1 [x] rfl
    (fun j u hu => by
      rcases j with _ | j
      · cases hu
        rw [add_zero_block, hg0.cell]; rfl
      · cases hu) (fun u hu => (List.mem_singleton.1 hu) ▸ hx) (by unfold maxLen; omega) (by omega) hB
  rcases ownsRow_forms' hown' with ⟨_, h0⟩ | ⟨g, cap, rfl⟩
  · omega
  · refine ⟨g, cap, w', hrun, hown', hgr, ?_⟩
    rcases hbl with h | h
    · exact .inl h.symm
    · right
      simpa [Value.ownBlock] using h
set_option maxRecDepth 100000 in
set_option maxHeartbeats 1000000 in
theorem runsIn_any (A : Option Addr) (n c : Nat) (w : World) : CallsIn Fence.wide 0 Try.prog 56 #[.slice A n c] w fun e w' => e = .returned (.func (.func 57) #[] #[.pointer (some ⟨w.heap.size, 0, none⟩)]) ∧ w' = w.alloc (.cells #[.slice A n c] 24) := by
  refine callsIn_of_wp Try.func56 rfl trivial ?_ rfl
  simp only [Try.ntmps56, List.size_toArray, List.length_cons, List.length_nil, Nat.reduceAdd, Nat.reduceSub, Array.replicate_succ, Array.replicate_zero, List.push_toArray, List.append_toArray, List.nil_append, List.cons_append]
  gi_wp2
  go_ret
  exact ⟨rfl, rfl⟩

theorem grown_below {W W' : World} (h : Below W.heap.size W W') (row : Option Nat) : W.grownBy W' row := ⟨h.os, h.tape, h.output, h.size, fun b hb _ => h.block b hb⟩
theorem keep_grown' {o : Nat → Prop} {row : Option Nat} {W W' : World} (h : W.grownBy W' row) (ho : ∀ g, row = some g → o g) : Keep o W W' :=
  ⟨h.size, fun b _ hb _ hn => (h.block b (Array.getElem?_eq_some_iff.1 hb).1 (fun e => hn (ho b e.symm))).trans hb⟩
theorem keepsFrom_grown' {B : Nat} {row : Option Nat} {W W' : World} (h : W.grownBy W' row) (ho : ∀ g, row = some g → ∃ x, W.heap[g]? = some x ∧ x.isCells = true) : KeepsFrom B W W' :=
  ⟨h.size, fun k o _ hk hc => (h.block k (Array.getElem?_eq_some_iff.1 hk).1 (fun e => by
    obtain ⟨x, hx, hxc⟩ := ho k e.symm
    rw [hk] at hx
    cases hx
    rw [hxc] at hc
    cases hc)).trans hk⟩
theorem operIn_app {F : Fence} {n : Nat} {P : Program} {o : Oper} {a : Act} {w : World} {K : Act → World → Prop} {Q : Exit → Act → World → Prop} (hF : ∀ f, F.fn f) (s x : Operand) (t t' : TypeId) (ho : o.op = .call { callee := .builtin .append, args := #[s, x], argTypes := #[t, t'] })
    (vs vx : Value) (hs : a.eval s = vs) (hx : a.eval x = vx) (v : Value) (w' : World) (hrun : (Builtin.append_ #[t, t'] o.type #[vs, vx]).run P w = .ok v w') (h : K (a.put o.dst v) w') : o.wpIn F n P a w K Q := by
  unfold Oper.wpIn
  refine ⟨fun f _ => hF f, ?_⟩
  rw [Oper.semAt_plain F _ _ (by rw [ho]; intro c hc; cases hc)]
  simp [execOp, ho, resolve, invoke, builtin, hs, hx, hrun, Result.andThen]
  exact h
/-- The one block in which a slice lies. -/
theorem RdB.lies {W : World} {ok : Nat → Prop} {A : Option Addr} {n c : Nat} {bs : List UInt8} (h : RdB W ok (.slice A n c) bs) :
    RdB W (fun b => ok b ∧ (∃ ad : Addr, A = some ad ∧ ad.block = b) ∧ ∃ x, W.heap[b]? = some x ∧ x.isCells = true) (.slice A n c) bs := by
  obtain ⟨A', c', hv, h1, h2, h3⟩ := h
  refine ⟨A', c', hv, h1, h2, fun h0 => ?_⟩
  obtain ⟨ad, hA, hok, hc⟩ := h3 h0
  injection hv with e1 e2 e3
  refine ⟨ad, hA, ⟨hok, ⟨ad, e1.trans hA, rfl⟩, ?_⟩, hc⟩
  obtain ⟨o, ho, hoc⟩ := cells_of_cell (hc 0 h0)
  rw [block_add] at ho
  exact ⟨o, ho, hoc⟩
/-- What holds between two entries: B: the heap's size as the call begins; the results lie at B and B + 1, the list's variable at B + 2, the iterator's bytes at B + 3. -/
def InvL (w : World) (B : Nat) (pre : List (Option (List UInt8))) (o : Nat → Prop) (W : World) : Prop :=
  ∃ (es : List (List UInt8)) (v : Value) (n : Nat) (vs : List Value), pre = es.map some ∧ Blk W (B + 2) 26 #[v] ∧ W.ownsRow B 24 1 v n vs ∧ n = (es.take 65).length ∧
    (∀ k, k < n → RdB W (fun b => o b ∧ b ≠ B + 2 ∧ some b ≠ v.ownBlock) (vs.getD k undef) (es.getD k [])) ∧ o (B + 2) ∧ (∀ g, v.ownBlock = some g → o g ∧ g ≠ B + 2) ∧
    (∀ b, o b → (b = B + 2 ∨ B + 4 ≤ b) ∧ ∃ x, W.heap[b]? = some x ∧ x.isCells = true) ∧ Blk W B 26 #[.slice none 0 0] ∧ Blk W (B + 1) 30 #[.int .i64 0] ∧ Below B w W
/-- What holds when a run wasn't there whole. -/
def InvX (w : World) (B : Nat) (c : Code) (pre : List (Option (List UInt8))) (_ : Nat → Prop) (W : World) : Prop :=
  c = .ret ∧ (∃ es : List (List UInt8), pre = es.map some ++ [none]) ∧ Blk W B 26 #[.slice none 0 0] ∧ Blk W (B + 1) 30 #[.int .i64 20] ∧ Below B w W
theorem invL_ab (w : World) (B D : Nat) (hD : B + 4 ≤ D) : AbN (fun b => b = B + 3) D (InvL w B) := by
  refine ⟨fun pre o W W' h hs => ?_, fun pre o W h b hb => ?_⟩
  · obtain ⟨es, v, n, vs, h1, h2, h3, h4, h5, h6, h7, h8, h9, h10, h11⟩ := h
    have hblk : ∀ b, o b → W'.heap[b]? = W.heap[b]? := fun b hb => hs.block b (.inr hb) (by
      obtain ⟨x, hx, _⟩ := (h8 b hb).2
      exact (Array.getElem?_eq_some_iff.1 hx).1)
    refine ⟨es, v, n, vs, h1, (hblk _ h6).trans h2, ownsRow_block h3 fun g hg => hblk g (h7 g hg).1, h4, fun k hk => (h5 k hk).kept fun a x ha hx => (World.cell?_of_block (hblk _ ha.1)).trans hx, h6, h7, fun b hb => ⟨(h8 b hb).1, ?_⟩,
      (hs.block B (.inl ⟨by omega, by omega⟩) h9.lt).trans h9, (hs.block (B + 1) (.inl ⟨by omega, by omega⟩) h10.lt).trans h10, h11.trans ⟨hs.os, hs.tape, hs.output, hs.size, fun b hb => hs.block b (.inl ⟨by omega, by omega⟩) (by have := h9.lt; omega)⟩⟩
    rw [hblk b hb]
    exact (h8 b hb).2
  · obtain ⟨es, v, n, vs, h1, h2, h3, h4, h5, h6, h7, h8, h9, h10, h11⟩ := h
    exact (h8 b hb).2
theorem invX_ab (w : World) (B D : Nat) (hD : B + 4 ≤ D) (c : Code) : AbN (fun b => b = B + 3) D (fun pre o W => InvX w B c pre o W ∧ ∀ b, ¬ o b) := by
  refine ⟨fun pre o W W' h hs => ?_, fun pre o W h b hb => absurd hb (h.2 b)⟩
  obtain ⟨⟨h1, h2, h3, h4, h5⟩, h6⟩ := h
  exact ⟨⟨h1, h2, (hs.block B (.inl ⟨by omega, by omega⟩) h3.lt).trans h3, (hs.block (B + 1) (.inl ⟨by omega, by omega⟩) h4.lt).trans h4, h5.trans ⟨hs.os, hs.tape, hs.output, hs.size, fun b hb => hs.block b (.inl ⟨by omega, by omega⟩) (by have := h3.lt; omega)⟩⟩, h6⟩
end Go.Proofs.Ytjdgcciemlfapaa
