/-
  Which blocks a call may have turned: 'Turn S a w': every block of a that is not in S is as it was. Nothing here names the program. No condition.
  Bytes as strings; a slice of bytes cloned: for whatever bytes, in whatever memory. No condition.
  Laws for single operations outside of a fence: a whole array loaded, stored, copied into, the world behind it under a name; results of which the first lies in a variable. No condition of their own.
-/
import Derived.Test.YtkbdkeclbokhdaaDoorRd
import Derived.Test.YtkbdkeclbokhdaaDoorQ10
import Derived.Stop.BytesEq
import Derived.Deep.MidRow
import Derived.StillTailTactics
import Derived.Deep.QuietTactic
import Derived.BigQuiet
import Derived.WalkSpells
import Derived.WalkLawsBesides
import Derived.Lib.Hide
import Derived.Lib.SlBytesConst
import Derived.Lib.SmallJoins
import Derived.Test.YtkbdkeclbokhdaaDoorOps
import Derived.Laws.Tables
namespace Go.Proofs.YtkbdkeclbokhdaaDoor
open Go Go.RowKit

structure Turn (S : Nat → Prop) (a w : World) : Prop where
  os : w.os = a.os
  tape : w.tape = a.tape
  output : w.output = a.output
  size : a.heap.size ≤ w.heap.size
  block : ∀ k, k < a.heap.size → ¬ S k → w.heap[k]? = a.heap[k]?
section
variable {S S' : Nat → Prop} {a b w : World}
theorem Turn.refl (S : Nat → Prop) (w : World) : Turn S w w := ⟨rfl, rfl, rfl, Nat.le_refl _, fun _ _ _ => rfl⟩
theorem Turn.trans (h : Turn S a b) (k : Turn S' b w) (hs : ∀ i, i < a.heap.size → S' i → S i) : Turn S a w :=
  ⟨k.os.trans h.os, k.tape.trans h.tape, k.output.trans h.output, Nat.le_trans h.size k.size, fun i hi hn => (k.block i (Nat.lt_of_lt_of_le hi h.size) (fun e => hn (hs i hi e))).trans (h.block i hi hn)⟩
theorem Turn.mono (h : Turn S a w) (hs : ∀ i, i < a.heap.size → S i → S' i) : Turn S' a w := ⟨h.os, h.tape, h.output, h.size, fun i hi hn => h.block i hi (fun e => hn (hs i hi e))⟩
theorem Turn.drewN (h : Turn S a w) (n : Nat) : Turn S a (w.drewN n) := ⟨h.os, h.tape, h.output, h.size, h.block⟩
theorem Turn.setCell (h : Turn S a w) {p : Addr} (hp : p.block < a.heap.size → S p.block) (u : Value) : Turn S a (w.setCell p u) :=
  ⟨h.os, h.tape, h.output, by simpa [World.setCell] using h.size, fun i hi hn => (Below.heap_setCell w p u i (by rintro rfl; exact hn (hp hi))).trans (h.block i hi hn)⟩
theorem Turn.grown {row : Option Nat} (h : Turn S a w) {w' : World} (hg : w.grownBy w' row) (hr : ∀ k, row = some k → k < a.heap.size → S k) : Turn S a w' :=
  ⟨hg.os.trans h.os, hg.tape.trans h.tape, hg.output.trans h.output, Nat.le_trans h.size hg.size, fun i hi hn => (hg.block i (Nat.lt_of_lt_of_le hi h.size) (fun e => hn (hr i e.symm hi))).trans (h.block i hi hn)⟩
theorem Turn.of_below {B : Nat} (h : Below B a w) : Turn (fun k => B ≤ k) a w := ⟨h.os, h.tape, h.output, h.size, fun i _ hn => h.block i (by omega)⟩
/-- Nothing old has turned. -/
theorem Turn.of_new (h : Below a.heap.size a w) (S : Nat → Prop) : Turn S a w := ⟨h.os, h.tape, h.output, h.size, fun i hi _ => h.block i hi⟩
theorem Turn.below {B : Nat} (h : Turn S a w) (hB : B ≤ a.heap.size) (hs : ∀ i, i < B → ¬ S i) : Below B a w := ⟨h.os, h.tape, h.output, h.size, fun i hi => h.block i (by omega) (hs i hi)⟩
theorem Turn.cell (h : Turn S a w) {p : Addr} {x : Value} (hx : a.cell? p = some x) (hp : ¬ S p.block) : w.cell? p = some x :=
  (World.cell?_of_block (h.block p.block (World.block_lt_of_cell? a p hx) hp)).trans hx
theorem Turn.frozen (h : Turn S a w) {p : Addr} (hl : p.block < a.heap.size) (hp : ¬ S p.block) : w.frozen? p = a.frozen? p := World.frozen?_of_block (h.block p.block hl hp)
theorem Turn.rd {ok : Nat → Prop} {v : Value} {bs : List UInt8} (h : Turn S a w) (hr : RdB a ok v bs) (hs : ∀ b, ok b → ¬ S b) : RdB w ok v bs := hr.kept fun _ _ ha hx => h.cell hx (hs _ ha)
theorem Turn.blk {g : Nat} {t : TypeId} {cs : Array Value} (h : Turn S a w) (hb : Blk a g t cs) (hs : ¬ S g) : Blk w g t cs := (h.block g hb.lt hs).trans hb
theorem Turn.own {B n k : Nat} {e : TypeId} {v : Value} {xs : List Value} (h : Turn S a w) (ho : a.ownsRow B e k v n xs) (hs : ∀ g, v.ownBlock = some g → ¬ S g) : w.ownsRow B e k v n xs := by
  refine ⟨ho.1, ?_⟩
  rcases ho.2 with h0 | ⟨g, cap, cur, rfl, h2, h3, h4⟩
  · exact .inl h0
  · exact .inr ⟨g, cap, cur, rfl, h2, (h.block g (Blk.lt h3) (hs g rfl)).trans h3, h4⟩
end
/-- An append onto a row of the call's own, of a slice of bytes that reads as cs: which blocks have turned. -/
theorem app_turn {B : Nat} {w : World} (hB : B ≤ w.heap.size) {v : Value} {n : Nat} {bs : List UInt8} (hown : w.ownsRow B 5 1 v n (bs.map bv))
    {ok : Nat → Prop} {A : Option Addr} {m c : Nat} {cs : List UInt8} (hr : RdB w ok (.slice A m c) cs) (h63 : n + m ≤ 140737488351232) :
    ∃ v' w', (Builtin.append_ #[42, 42] 42 #[v, .slice A m c]).run Tryd.prog w = .ok v' w' ∧
      w'.ownsRow B 5 1 v' (n + m) ((bs ++ cs).map bv) ∧ w.grownBy w' v.ownBlock ∧ (v'.ownBlock = v.ownBlock ∨ v'.ownBlock = some w.heap.size) := by
  obtain ⟨i0, hi, hz0, hz1, hz2⟩ := info_parts info_u8
  obtain ⟨v', w', hrun, hown', hgr, hv⟩ := run_append_rd (P := Tryd.prog) w B 42 42 5 i0 (.int .u8 0) Tryd.underlying42 hi hz0 hz1 hz2 rfl v n _ hown ok A m c cs hr (by omega) hB
  exact ⟨v', w', hrun, by rw [List.map_append]; exact hown', hgr, hv⟩
theorem own_len {w : World} {B n k : Nat} {e : TypeId} {v : Value} {xs : List Value} (h : w.ownsRow B e k v n xs) : ∃ A c, v = .slice A n c ∧ n ≤ c := by
  rcases h.2 with ⟨rfl, rfl⟩ | ⟨g, cap, _, rfl, _, _, hc, _⟩
  · exact ⟨none, 0, rfl, Nat.le_refl _⟩
  · exact ⟨_, cap, rfl, hc⟩
/-- The first of a row's elements. -/
theorem own_cut {w : World} {B n k : Nat} {e : TypeId} {A : Option Addr} {c : Nat} {xs : List Value} (h : w.ownsRow B e 1 (.slice A n c) n xs) (hk : k ≤ n) : w.ownsRow B e 1 (.slice A k c) k (xs.take k) := by
  refine ⟨by rw [List.length_take, h.1]; omega, ?_⟩
  rcases h.2 with ⟨hv, h0⟩ | ⟨g, cap, cur, hv, h1, h2, h3, h4, h5, h6⟩
  · injection hv with e1 e2 e3
    subst e1; subst e3
    exact .inl ⟨by rw [show k = 0 from by omega], by omega⟩
  · injection hv with e1 e2 e3
    subst e1; subst e3
    refine .inr ⟨g, c, cur, rfl, h1, h2, by omega, h4, h5, ?_⟩
    rw [← h6, List.take_take]
    congr 1
    omega
/-- A row's bytes, read. -/
theorem own_read {w : World} {B n : Nat} {v : Value} {bs : List UInt8} (h : w.ownsRow B 5 1 v n (bs.map bv)) (hm : n ≤ 140737488351232) : RdB w (fun b => v.ownBlock = some b ∧ B ≤ b ∧ b < w.heap.size) v bs := by
  have hn : bs.length = n := by simpa using h.1
  obtain ⟨A, c, hv, h1, h2, h3⟩ := rdB_own h hn hm
  refine ⟨A, c, hv, h1, h2, fun h0 => ?_⟩
  obtain ⟨ad, hA, hok, hc⟩ := h3 h0
  exact ⟨ad, hA, ⟨by rw [hv, hA]; rfl, hok⟩, hc⟩
end Go.Proofs.YtkbdkeclbokhdaaDoor
namespace Go.Proofs.YtkbdkeclbokhdaaDoor
open Go Go.RowKit Go.Shelf

theorem neq_str (a b : List UInt8) (w : World) : (binOp .neq 9 (.string ⟨a.toArray⟩) (.string ⟨b.toArray⟩)).run Tryd.prog w = .ok (.bool (!(a == b))) w := by
  show (Op.stringOp .neq ⟨a.toArray⟩ ⟨b.toArray⟩).run Tryd.prog w = _
  simp [Op.stringOp, ByteArray.toList_eq]
theorem RdB.firsts {W : World} {ok : Nat → Prop} {A : Option Addr} {r c m : Nat} {xs : List UInt8} (h : RdB W ok (.slice A r c) xs) (hm : m ≤ r) : RdB W ok (.slice A m c) (xs.take m) := by
  obtain ⟨A', c', hv, h1, h2, h3⟩ := h
  injection hv with e1 e2 e3
  subst e1; subst e2; subst e3
  have hl : (xs.take m).length = m := by rw [List.length_take]; omega
  refine ⟨A, c, by rw [hl], by omega, by omega, fun h0 => ?_⟩
  obtain ⟨ad, hA, hok, hc⟩ := h3 (by omega)
  refine ⟨ad, hA, hok, fun j hj => ?_⟩
  rw [hl] at hj
  rw [hc j (by omega), List.getD_eq_getElem?_getD, List.getD_eq_getElem?_getD, List.getElem?_take_of_lt hj]
set_option maxRecDepth 100000 in
set_option maxHeartbeats 1000000 in
theorem clone_any (A : Option Addr) (c : Nat) (bs : List UInt8) (w : World) (hr : RdB w (fun b => b < w.heap.size) (.slice A bs.length c) bs) :
    Calls Tryd.prog 45 #[.slice A bs.length c] w fun e w' => ∃ A' c', e = .returned (.slice A' bs.length c') ∧ RdB w' (fun b => w.heap.size ≤ b ∧ b < w'.heap.size) (.slice A' bs.length c') bs ∧ w'.ownsRow w.heap.size 5 1 (.slice A' bs.length c') bs.length (bs.map bv) ∧ Below w.heap.size w w' := by
  cases A with
  | none =>
    have hn : bs = [] := by
      rcases Nat.eq_zero_or_pos bs.length with h | h
      · exact List.eq_nil_of_length_eq_zero h
      · obtain ⟨A', c', hv, h1, h2, h3⟩ := hr
        injection hv with e1 e2 e3
        subst e1
        obtain ⟨_, h, _⟩ := h3 h
        cases h
    subst hn
    have heq : ∀ w', (binOp .eql 42 (.slice none 0 c) (.slice none 0 0)).run Tryd.prog w' = .ok (.bool true) w' := fun w' => Lib.run_eql_slice_nil w' 42 5 none 0 c 0 0 Tryd.underlying42
    go_enter Tryd.func45, Tryd.ntmps45
    go_wp2
    go_ret
    exact ⟨none, 0, rfl, ⟨none, 0, rfl, Nat.le_refl _, Nat.zero_le _, fun h => absurd h (by simp)⟩, World.ownsRow_nil _ _ _ _, Below.refl _ _⟩
  | some ad =>
    have heq : ∀ w', (binOp .eql 42 (.slice (some ad) bs.length c) (.slice none 0 0)).run Tryd.prog w' = .ok (.bool false) w' := fun w' => Lib.run_eql_slice_nil w' 42 5 (some ad) bs.length c 0 0 Tryd.underlying42
    have hl : bs.length ≤ 140737488351232 := by
      obtain ⟨A', c', hv, h1, h2, h3⟩ := hr
      exact h2
    have hb0 : Below w.heap.size w (w.alloc (.cells #[] 5)) := (Below.refl _ _).alloc (Nat.le_refl _) _
    have own0 : (w.alloc (.cells #[] 5)).ownsRow w.heap.size 5 1 (.slice (some ⟨w.heap.size, 0, none⟩) 0 0) 0 (([] : List UInt8).map bv) := ⟨rfl, .inr ⟨w.heap.size, 0, #[], rfl, Nat.le_refl _, heap_alloc_new w _, Nat.le_refl _, by unfold maxLen; omega, rfl, rfl⟩⟩
    obtain ⟨i0, hi, hz0, hz1, hz2⟩ := info_parts info_u8
    obtain ⟨v', w', hrun, hown', hgr, _⟩ := run_append_rd (P := Tryd.prog) (w.alloc (.cells #[] 5)) w.heap.size 42 42 5 i0 (.int .u8 0) Tryd.underlying42 hi hz0 hz1 hz2 rfl _ 0 _ own0 _ (some ad) bs.length c bs (hr.kept fun a x ha h => (hb0.cell (p := a) ha).trans h) (by omega) (by simp)
    rw [List.map_nil, List.nil_append, Nat.zero_add] at hown'
    have hb : Below w.heap.size w w' := hb0.grown hgr (by simp) fun k hk => by
      simp only [Value.ownBlock, Option.some.injEq] at hk
      omega
    have hrd := rdB_own hown' rfl hl
    obtain ⟨A', c', rfl⟩ : ∃ A' c', v' = .slice A' bs.length c' := by
      rcases ownsRow_forms' hown' with ⟨rfl, h0⟩ | ⟨g, cap, rfl⟩
      · exact ⟨none, 0, by rw [h0]⟩
      · exact ⟨_, _, rfl⟩
    have HR := Lib.hid hrun
    have HB := Lib.hid hb
    have HRD := Lib.hid hrd
    have HO := Lib.hid hown'
    clear hrun hb hrd hown' hgr own0 hb0 hi hz0 hz1 hz2 hr hl
    go_enter Tryd.func45, Tryd.ntmps45
    go_wp2_with (at_builtin; refine wpList_append_run rfl (.tmp 5) (.tmp 6) _ _ rfl _ _ rfl rfl _ _ HR.out ?_)
    go_ret
    exact ⟨A', c', rfl, HRD.out, HO.out, HB.out⟩
end Go.Proofs.YtkbdkeclbokhdaaDoor
namespace Go.Proofs.YtkbdkeclbokhdaaDoor
open Go Go.RowKit

section
variable {P : Program} {ops : Array Oper} {rest : List Oper} {o : Oper} {a : Act} {w : World} {Q : Exit → Act → World → Prop}
theorem wpList_load_arr (hgd : o.guard = none) (ty : TypeId) (x : Operand) (ho : o.op = .load ty x) (g : Nat) (hx : a.eval x = .pointer (some ⟨g, 0, none⟩)) (t : TypeId) (cs : Array Value) (d : TypeDesc) (hg : Blk w g t cs)
    (hu : P.underlying ty = some d) (hd : (match d with | .struct _ | .array _ _ => true | _ => false) = true) (hi : (P.info? ty).map (·.size) = some cs.size)
    (h : wpList P ops Q rest (a.put o.dst (.agg cs)) w) : wpList P ops Q (o :: rest) a w := wpList_load_row hgd ty x ho g hx t cs (0, 0) d hg hu hd hi h
theorem wpList_store_arrW (hgd : o.guard = none) (ty : TypeId) (x y : Operand) (ho : o.op = .store ty x y) (g : Nat) (cells : Array Value) (hx : a.eval x = .pointer (some ⟨g, 0, none⟩)) (hy : a.eval y = .agg cells)
    (t : TypeId) (old : Array Value) (hg : Blk w g t old) (hi : (P.info? ty).map (·.size) = some cells.size) (hold : old.size = cells.size) (h1 : cells.all (·.oneCell') = true)
    (h : ∀ w', Blk w' g t cells → w'.heap.size = w.heap.size → Below g w w' → (∀ b, b ≠ g → w'.heap[b]? = w.heap[b]?) → wpList P ops Q rest (a.put o.dst undef) w') : wpList P ops Q (o :: rest) a w :=
  wpList_store_row hgd ty x y ho g cells hx hy t old hg hi hold h1 (h _ (hg.setRow _) (size_setRow _ _ _) (below_setRow (Below.refl _ _) (Nat.le_refl _) _) (fun b hb => setRow_other w g b cells hb))
theorem wpList_copy_arrW (hgd : o.guard = none) (d s : Operand) (dT sT : TypeId)
    (ho : o.op = .call { callee := .builtin .copy, args := #[d, s], argTypes := #[dT, sT] }) (elem : TypeId) (hu : P.underlying dT = some (.slice elem)) (hsz : (P.info? elem).map (·.size) = some 1)
    (g off dLen dCap : Nat) (hd : a.eval d = .slice (some ⟨g, off, none⟩) dLen dCap) (A : Option Addr) (sLen sCap : Nat) (hs : a.eval s = .slice A sLen sCap)
    (m N : Nat) (f : Nat → Value) (t : TypeId) (hg : Blk w g t (arr N f)) (hm : Nat.min sLen dLen = m) (c : Nat → Value)
    (hsrc : 0 < m → ∃ ad, A = some ad ∧ ∀ j, j < m → w.cell? (ad.add j) = some (c j)) (hfit : off + m ≤ N) (h1 : ∀ j, j < m → (c j).oneCell' = true)
    (f' : Nat → Value) (hf' : ∀ i, i < N → (if off ≤ i ∧ i < off + m then c (i - off) else f i) = f' i)
    (h : ∀ w', Blk w' g t (arr N f') → w'.heap.size = w.heap.size → Below g w w' → (∀ b, b ≠ g → w'.heap[b]? = w.heap[b]?) → wpList P ops Q rest (a.put o.dst (goInt m)) w') : wpList P ops Q (o :: rest) a w := by
  refine wpList_plain hgd fun K hK => ?_
  unfold Oper.wp
  rcases Nat.eq_zero_or_pos m with h0 | h0
  · have hrun := run_copy_none (P := P) w dT sT o.type elem (some ⟨g, off, none⟩) A dLen dCap sLen sCap hu hsz (by omega)
    simp [execOp, ho, resolve, invoke, builtin, hd, hs, hrun, Result.andThen, Oper.upon]
    have e : arr N f = arr N f' := arr_congr fun i hi => by rw [← hf' i hi, if_neg (by omega)]
    have := h w (hg.same e) rfl (Below.refl _ _) (fun _ _ => rfl)
    rw [h0] at this
    exact hK _ _ this
  · obtain ⟨ad, rfl, hc⟩ := hsrc h0
    have hrun := run_copy_row (P := P) w dT sT o.type elem g off dLen dCap ad sLen sCap (arr N f) t ((List.range m).map c) hu hsz hg (by simp [hm])
      (fun j v hv => by
        have hj : j < m := by
          by_cases hj : j < m
          · exact hj
          · simp [List.getElem?_eq_none (show ((List.range m).map c).length ≤ j by simp; omega)] at hv
        rw [List.getElem?_map, List.getElem?_range hj] at hv
        cases hv
        exact hc j hj) (by simp [arr_size]; omega) (fun v hv => by
        simp only [List.mem_map, List.mem_range] at hv
        obtain ⟨j, hj, rfl⟩ := hv
        exact h1 j hj)
    rw [List.append_assoc] at hrun
    simp only [List.length_map, List.length_range] at hrun
    rw [splice_arr N off m f c hfit] at hrun
    simp [execOp, ho, resolve, invoke, builtin, hd, hs, hrun, Result.andThen, Oper.upon]
    refine hK _ _ (h _ ((hg.setRow _).same (arr_congr hf')) (size_setRow _ _ _) (below_setRow (Below.refl _ _) (Nat.le_refl _) _) (fun b hb => setRow_other w g b _ hb))
end
theorem results_cell_tmp {P : Program} {fn : Func} {p q : Tmp} {ty : TypeId} (h : fn.results = #[.cell p ty, .tmp q]) (tmps : Array Value) (w : World) (g : Nat) (t : TypeId) (cs : Array Value) (d : TypeDesc)
    (hp : tmps.getD p undef = .pointer (some ⟨g, 0, none⟩)) (hg : Blk w g t cs)
    (hu : P.underlying ty = some d) (hd : (match d with | .struct _ | .array _ _ => true | _ => false) = true) (hi : (P.info? ty).map (·.size) = some cs.size) :
    (results fn tmps).run P w = .ok (.tuple #[.agg cs, tmps.getD q undef]) w := by
  have hp' : tmps[p]?.getD undef = .pointer (some ⟨g, 0, none⟩) := by simpa using hp
  simp [results, h, hp', asAddr, run_loadVar_row w g t ty cs (0, 0) d hg hu hd hi]
end Go.Proofs.YtkbdkeclbokhdaaDoor
