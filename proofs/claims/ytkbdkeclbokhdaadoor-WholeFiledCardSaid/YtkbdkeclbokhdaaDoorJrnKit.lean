/-
  Layer 10: a journal in memory; a record more (add). No condition.
-/
import Derived.Test.YtkbdkeclbokhdaaDoorJrnFirst
import Derived.Test.YtkbdkeclbokhdaaDoorSlabBJ
namespace Go.Proofs.YtkbdkeclbokhdaaDoor
open Go Go.RowKit Go.Shelf

section
variable {P : Program} {ops : Array Oper} {rest : List Oper} {o : Oper} {a : Act} {w : World} {Q : Exit → Act → World → Prop}
theorem wpList_store_partJ (hgd : o.guard = none) (ty : TypeId) (x y : Operand) (ho : o.op = .store ty x y)
    (g off m N : Nat) (f c : Nat → Value) (hx : a.eval x = .pointer (some ⟨g, off, none⟩)) (hy : a.eval y = .agg (arr m c))
    (t : TypeId) (hg : Blk w g t (arr N f)) (hi : (P.info? ty).map (·.size) = some m) (hfit : off + m ≤ N) (h1 : ∀ j, j < m → (c j).oneCell' = true)
    (h : ∀ w', w' = w.setRow g (arr N fun i => if off ≤ i ∧ i < off + m then c (i - off) else f i) → wpList P ops Q rest (a.put o.dst undef) w') : wpList P ops Q (o :: rest) a w := by
  refine wpList_plain hgd fun K hK => ?_
  unfold Oper.wp
  have hl : (arr m c).toList = (List.range m).map c := by rw [arr_list]
  have hst := run_storeCells_at (P := P) g off t ((List.range m).map c) 0 (arr N f) w hg (by rw [List.length_map, List.length_range, arr_size]; omega) (fun v hv => by
    simp only [List.mem_map, List.mem_range] at hv
    obtain ⟨j, hj, rfl⟩ := hv
    exact h1 j hj)
  rw [List.append_assoc, Nat.add_zero, List.length_map, List.length_range, splice_arr N off m f c hfit] at hst
  cases hq : P.info? ty with
  | none => simp [hq] at hi
  | some i =>
    have hs : m = i.size := by simp [hq] at hi; omega
    have hsz : (arr m c).size = i.size := by rw [arr_size, hs]
    have := hK _ _ (h _ rfl)
    simp [execOp, ho, hx, hy, Instr.storeAt, Instr.sureAddr, Sem.run_bind, storeVar, sizeOf, typeInfo, hq, Value.cells, hsz, hl, hst, Result.andThen, Oper.upon]
    exact this
end
theorem app_valJ {B : Nat} {w : World} (hB : B ≤ w.heap.size) {v : Value} {n : Nat} {xs : List Value} (hown : w.ownsRow B 42 1 v n xs) (x : Value) (hx : x.oneCell' = true) {g0 : Nat} (hg0 : Blk w g0 42 #[x]) (hn : n ≤ 100000000) :
    ∃ g cap w', (Builtin.append_ #[57, 57] 57 #[v, .slice (some ⟨g0, 0, none⟩) 1 1]).run Tryd.prog w = .ok (.slice (some ⟨g, 0, none⟩) (n + 1) cap) w' ∧
      w'.ownsRow B 42 1 (.slice (some ⟨g, 0, none⟩) (n + 1) cap) (n + 1) (xs ++ [x]) ∧ w.grownBy w' v.ownBlock ∧ (v.ownBlock = some g ∨ g = w.heap.size) := by
  obtain ⟨i0, hi, hz0, hz1, hz2⟩ := info_parts info_bytes
  obtain ⟨v', w', hrun, hown', hgr, _, hbl⟩ := run_append_own_at (P := Tryd.prog) w B 57 57 42 i0 (.slice none 0 0) 1 24 Tryd.underlying57 hi hz0 hz1 hz2 rfl (by omega) v n xs hown ⟨g0, 0, none⟩ 1 1 [x] rfl
    (fun j u hu => by
      rcases j with _ | j
      · cases hu
        rw [add_zero_block, hg0.cell]; rfl
      · cases hu) (fun u hu => (List.mem_singleton.1 hu) ▸ hx) (by unfold maxLen; omega) (by omega) hB
  rcases ownsRow_forms' hown' with ⟨_, h0⟩ | ⟨g, cap, rfl⟩
  · omega
  · refine ⟨g, cap, w', hrun, hown', hgr, ?_⟩
    rcases hbl with h | h
    · exact .inl h.symm
    · right
      simpa [Value.ownBlock] using h
theorem oper_appendJ {P : Program} {o : Oper} {a : Act} {w : World} {K : Act → World → Prop} {Q : Exit → Act → World → Prop} (s x : Operand) (t t' : TypeId) (ho : o.op = .call { callee := .builtin .append, args := #[s, x], argTypes := #[t, t'] })
    (vs vx : Value) (hs : a.eval s = vs) (hx : a.eval x = vx) (v : Value) (w' : World) (hrun : (Builtin.append_ #[t, t'] o.type #[vs, vx]).run P w = .ok v w') (h : K (a.put o.dst v) w') : Oper.wp P o a w K Q := by
  unfold Oper.wp
  simp [execOp, ho, resolve, invoke, builtin, hs, hx, hrun, Result.andThen, Oper.upon]
  exact h
theorem oper_loadJ {P : Program} {o : Oper} {a : Act} {w : World} {K : Act → World → Prop} {Q : Exit → Act → World → Prop} (ty : TypeId) (x : Operand) (ho : o.op = .load ty x) (p v : Value) (hx : a.eval x = p) (hl : (Instr.loadAt ty p).run P w = .ok v w) (h : K (a.put o.dst v) w) : o.wp P a w K Q := by
  subst hx
  unfold Oper.wp
  simp [execOp, ho, hl, Result.andThen, Oper.upon]
  exact h
theorem loadVar_oneJ {P : Program} {ty : TypeId} {d : TypeDesc} {a : Addr} {v : Value} {w : World} (hu : P.underlying ty = some d) (hd : (match d with | .struct _ | .array _ _ => true | _ => false) = false) (hc : w.cell? a = some v) :
    (Go.loadVar ty a).run P w = .ok v w := by
  have hagg : (isAgg ty).run P w = .ok false w := by
    unfold isAgg
    rw [Sem.run_bind, run_underlying hu w]
    cases d <;> simp_all
  simp [loadVar, Sem.run_bind, hagg, hc, go_sem]

/-- A journal's 35 cells: its slab, its records, the sum of all, whether it is down. -/
def jF (gd : Nat) (v : Value) (l : Nat → UInt8) (dn : Bool) : Nat → Value
  | 0 => .pointer (some ⟨gd, 0, none⟩)
  | 1 => v
  | i + 2 => if i < 32 then bv (l i) else .bool dn
structure JrnS where
  recs : List (List UInt8)
  last : Nat → UInt8
  down : Bool
/-- A journal in block g, of the slab in block gd; Y: the blocks that are its own. -/
def JrnAt (w : World) (Y : Nat → Prop) (g gd : Nat) (s : JrnS) : Prop :=
  ∃ v cs, Blk w g 78 (arr 35 (jF gd v s.last s.down)) ∧ w.ownsRow 0 42 1 v s.recs.length cs ∧ (∀ k, k < s.recs.length → RdB w (fun i => Y i ∧ i ≠ g ∧ v.ownBlock ≠ some i) (cs.getD k undef) (s.recs.getD k [])) ∧ Y g ∧ (∀ i, v.ownBlock = some i → Y i ∧ i ≠ g) ∧ (∀ i, Y i → i < w.heap.size)
def JLeft (Y : Nat → Prop) (g gd : Nat) (s' : JrnS) (w w' : World) : Prop := ∃ Y', JrnAt w' Y' g gd s' ∧ Turn Y w w' ∧ ∀ i, Y' i → Y i ∨ w.heap.size ≤ i
theorem JrnAt.turn {w w' : World} {Y S : Nat → Prop} {g gd : Nat} {s : JrnS} (h : JrnAt w Y g gd s) (ht : Turn S w w') (hs : ∀ i, Y i → ¬ S i) : JrnAt w' Y g gd s := by
  obtain ⟨v, cs, h1, h2, h3, h4, h5, h6⟩ := h
  exact ⟨v, cs, ht.blk h1 (hs g h4), ht.own h2 (fun i hi => hs i (h5 i hi).1), fun k hk => ht.rd (h3 k hk) (fun b hb => hs b hb.1), h4, h5, fun i hi => Nat.lt_of_lt_of_le (h6 i hi) ht.size⟩
theorem JrnAt.below {w w' : World} {Y : Nat → Prop} {g gd : Nat} {s : JrnS} (h : JrnAt w Y g gd s) (hb : Below w.heap.size w w') : JrnAt w' Y g gd s :=
  h.turn (Turn.of_below hb) (fun i hi => by obtain ⟨v, cs, h1, h2, h3, h4, h5, h6⟩ := h; have := h6 i hi; omega)
theorem JrnAt.lt {w : World} {Y : Nat → Prop} {g gd : Nat} {s : JrnS} (h : JrnAt w Y g gd s) : g < w.heap.size := by
  obtain ⟨v, cs, h1, h2, h3, h4, h5, h6⟩ := h
  exact h6 g h4
theorem JrnAt.blocks {w : World} {Y : Nat → Prop} {g gd : Nat} {s : JrnS} (h : JrnAt w Y g gd s) : ∀ i, Y i → i < w.heap.size := by
  obtain ⟨v, cs, h1, h2, h3, h4, h5, h6⟩ := h
  exact h6
theorem jF_set1 (gd : Nat) (v v' : Value) (l : Nat → UInt8) (dn : Bool) : (arr 35 (jF gd v l dn)).setIfInBounds 1 v' = arr 35 (jF gd v' l dn) := by
  rw [arr_set _ _ _ _ (by omega)]
  refine arr_congr fun i _ => ?_
  match i with
  | 0 => rfl
  | 1 => rfl
  | m + 2 => rw [if_neg (by omega)]; rfl
theorem jF_set34 (gd : Nat) (v : Value) (l : Nat → UInt8) (dn b : Bool) : (arr 35 (jF gd v l dn)).setIfInBounds 34 (.bool b) = arr 35 (jF gd v l b) := by
  rw [arr_set _ _ _ _ (by omega)]
  refine arr_congr fun i hi => ?_
  match i with
  | 0 => rfl
  | 1 => rfl
  | m + 2 =>
    by_cases h : m + 2 = 34
    · rw [if_pos h]
      have : m = 32 := by omega
      subst this
      rfl
    · rw [if_neg h]
      show (if m < 32 then bv (l m) else .bool dn) = if m < 32 then bv (l m) else .bool b
      rw [if_pos (by omega), if_pos (by omega)]
theorem jF_last (gd : Nat) (v : Value) (l l' : Nat → UInt8) (dn : Bool) : (arr 35 fun i => if 2 ≤ i ∧ i < 2 + 32 then (fun k => bv (l' k)) (i - 2) else jF gd v l dn i) = arr 35 (jF gd v l' dn) := by
  refine arr_congr fun i hi => ?_
  match i with
  | 0 => rfl
  | 1 => rfl
  | m + 2 =>
    show (if 2 ≤ m + 2 ∧ m + 2 < 2 + 32 then bv (l' (m + 2 - 2)) else if m < 32 then bv (l m) else .bool dn) = if m < 32 then bv (l' m) else .bool dn
    by_cases h : m < 32
    · rw [if_pos (by omega), if_pos h]
      rfl
    · rw [if_neg (by omega), if_neg h, if_neg h]
/-- A record more: the row's append, and its store. -/
theorem add_part {Y : Nat → Prop} {g gd : Nat} {s : JrnS} {w W : World} {v : Value} {cs : List Value} {d : List UInt8} {A : Option Addr} {c : Nat}
    (hb : Blk w g 78 (arr 35 (jF gd v s.last s.down))) (ho : w.ownsRow 0 42 1 v s.recs.length cs) (hr : ∀ k, k < s.recs.length → RdB w (fun i => Y i ∧ i ≠ g ∧ v.ownBlock ≠ some i) (cs.getD k undef) (s.recs.getD k []))
    (hY : Y g) (hvY : ∀ i, v.ownBlock = some i → Y i ∧ i ≠ g) (hlt : ∀ i, Y i → i < w.heap.size) (hn : s.recs.length < 100000000) (hw : Below w.heap.size w W) (hd : RdB W (fun i => w.heap.size ≤ i ∧ i < W.heap.size) (.slice A d.length c) d) :
    ∃ gr cap w2, (Builtin.append_ #[57, 57] 57 #[v, .slice (some ⟨W.heap.size, 0, none⟩) 1 1]).run Tryd.prog (W.alloc (.cells #[.slice A d.length c] 42)) = .ok (.slice (some ⟨gr, 0, none⟩) (s.recs.length + 1) cap) w2 ∧
      Blk w2 g 78 (arr 35 (jF gd v s.last s.down)) ∧ JLeft Y g gd { s with recs := s.recs ++ [d] } w (w2.setCell ⟨g, 1, none⟩ (.slice (some ⟨gr, 0, none⟩) (s.recs.length + 1) cap)) ∧ ∀ i, w.heap.size ≤ i → i < W.heap.size → (w2.setCell ⟨g, 1, none⟩ (.slice (some ⟨gr, 0, none⟩) (s.recs.length + 1) cap)).heap[i]? = W.heap[i]? := by
  have hsz := hw.size
  have hbA : Below w.heap.size w (W.alloc (.cells #[.slice A d.length c] 42)) := hw.alloc hsz _
  have hszA := hbA.size
  have hoA : (W.alloc (.cells #[.slice A d.length c] 42)).ownsRow 0 42 1 v s.recs.length cs := (Turn.of_below hbA).own ho (fun i hi => by have := hlt i (hvY i hi).1; omega)
  obtain ⟨gr, cap, w2, hrun, how, hgr, hbl⟩ := app_valJ (Nat.zero_le _) hoA (.slice A d.length c) rfl (Blk.new W 42 _) (by omega)
  have hb2 : Blk w2 g 78 (arr 35 (jF gd v s.last s.down)) := (hb.below hbA (hlt g hY)).grown hgr (fun e => (hvY g e.symm).2 rfl)
  refine ⟨gr, cap, w2, hrun, hb2, ?_⟩
  have hsz2 := hgr.size
  have hS1 : (W.alloc (.cells #[.slice A d.length c] 42)).heap.size = W.heap.size + 1 := by simp
  have hgg : gr ≠ g := by
    rcases hbl with e | e
    · exact (hvY gr e).2
    · have := hlt g hY
      omega
  have hgr2 := (how.lt gr rfl).2
  have hcl : cs.length = s.recs.length := by simpa using ho.1
  have tA : Turn (fun i => i = g ∨ v.ownBlock = some i) (W.alloc (.cells #[.slice A d.length c] 42)) (w2.setCell ⟨g, 1, none⟩ (.slice (some ⟨gr, 0, none⟩) (s.recs.length + 1) cap)) :=
    ((Turn.refl _ _).grown hgr (fun k hk _ => .inr hk)).setCell (fun _ => .inl rfl) _
  have tW : Turn (fun i => i = g ∨ v.ownBlock = some i) w (w2.setCell ⟨g, 1, none⟩ (.slice (some ⟨gr, 0, none⟩) (s.recs.length + 1) cap)) := (Turn.of_new hbA _).trans tA (fun i _ hi => hi)
  have hset : (w2.setCell ⟨g, 1, none⟩ (.slice (some ⟨gr, 0, none⟩) (s.recs.length + 1) cap)).heap.size = w2.heap.size := by simp [World.setCell]
  refine ⟨?_, fun i hi1 hi2 => (tA.block i (by omega) (fun e => ?_)).trans (Below.heap_alloc W _ i hi2)⟩
  rotate_left
  · rcases e with e | e
    · have := hlt g hY
      omega
    · have := hlt i (hvY i e).1
      omega
  refine ⟨fun i => Y i ∨ (w.heap.size ≤ i ∧ i < w2.heap.size), ⟨.slice (some ⟨gr, 0, none⟩) (s.recs.length + 1) cap, cs ++ [.slice A d.length c], ?_, ?_, ?_, .inl hY, ?_, ?_⟩, tW.mono (fun i _ hi => by rcases hi with rfl | hi; exact hY; exact (hvY i hi).1), fun i hi => hi.imp id fun h => h.1⟩
  · have := hb2.store 1 (.slice (some ⟨gr, 0, none⟩) (s.recs.length + 1) cap)
    rw [jF_set1] at this
    exact this
  · rw [List.length_append, List.length_singleton]
    exact ((Turn.refl (fun i => i = g) w2).setCell (p := ⟨g, 1, none⟩) (fun _ => rfl) _).own how (fun i hi e => hgg (by
      simp only [Value.ownBlock, Option.some.injEq] at hi
      omega))
  · intro k hk
    rw [List.length_append, List.length_singleton] at hk
    by_cases hk' : k < s.recs.length
    · have e1 : (cs ++ [Value.slice A d.length c]).getD k undef = cs.getD k undef := by simp only [List.getD_eq_getElem?_getD]; rw [List.getElem?_append_left (by omega)]
      have e2 : (s.recs ++ [d]).getD k [] = s.recs.getD k [] := by simp only [List.getD_eq_getElem?_getD]; rw [List.getElem?_append_left hk']
      show RdB _ _ ((cs ++ [Value.slice A d.length c]).getD k undef) ((s.recs ++ [d]).getD k [])
      rw [e1, e2]
      refine (tW.rd (hr k hk') (fun b hb' e => ?_)).mono (fun b hb' => ⟨.inl hb'.1, hb'.2.1, fun e => ?_⟩)
      · rcases e with e | e
        · exact hb'.2.1 e
        · exact hb'.2.2 e
      · simp only [Value.ownBlock, Option.some.injEq] at e
        rcases hbl with e' | e'
        · exact hb'.2.2 (by rw [e', e])
        · have := hlt b hb'.1
          omega
    · have e0 : k = s.recs.length := by omega
      subst e0
      have e1 : (cs ++ [Value.slice A d.length c]).getD s.recs.length undef = .slice A d.length c := by simp only [List.getD_eq_getElem?_getD]; rw [List.getElem?_append_right (by omega), hcl, Nat.sub_self]; rfl
      have e2 : (s.recs ++ [d]).getD s.recs.length [] = d := by simp
      show RdB _ _ ((cs ++ [Value.slice A d.length c]).getD s.recs.length undef) ((s.recs ++ [d]).getD s.recs.length [])
      rw [e1, e2]
      have hdA : RdB (W.alloc (.cells #[.slice A d.length c] 42)) (fun i => w.heap.size ≤ i ∧ i < W.heap.size) (.slice A d.length c) d := hd.kept fun a x ha hx => (World.cell?_of_block (Below.heap_alloc W _ _ ha.2)).trans hx
      refine (tA.rd hdA (fun b hb' e => ?_)).mono (fun b hb' => ⟨.inr ⟨hb'.1, by omega⟩, fun e => ?_, fun e => ?_⟩)
      · rcases e with e | e
        · have := hlt g hY
          omega
        · have := hlt b (hvY b e).1
          omega
      · have := hlt g hY
        omega
      · simp only [Value.ownBlock, Option.some.injEq] at e
        rcases hbl with e' | e'
        · have := hlt gr (hvY gr e').1
          omega
        · omega
  · intro i hi
    simp only [Value.ownBlock, Option.some.injEq] at hi
    subst hi
    refine ⟨?_, hgg⟩
    rcases hbl with e | e
    · exact .inl (hvY gr e).1
    · exact .inr ⟨by omega, hgr2⟩
  · intro i hi
    rw [hset]
    rcases hi with hi | hi
    · have := hlt i hi
      omega
    · exact hi.2
/-- The sum of all, stored. -/
theorem jrn_last {Y : Nat → Prop} {g gd : Nat} {s : JrnS} {w w1 : World} (h : JLeft Y g gd s w w1) (l : Nat → UInt8) :
    ∃ v, Blk w1 g 78 (arr 35 (jF gd v s.last s.down)) ∧ JLeft Y g gd { s with last := l } w (w1.setRow g (arr 35 (jF gd v l s.down))) := by
  obtain ⟨Y', ⟨v, cs, h1, h2, h3, h4, h5, h6⟩, ht, hY⟩ := h
  refine ⟨v, h1, Y', ⟨v, cs, h1.setRow _, ?_, fun k hk => ?_, h4, h5, fun i hi => by rw [size_setRow]; exact h6 i hi⟩, ?_, hY⟩
  · refine ⟨h2.1, ?_⟩
    rcases h2.2 with h0 | ⟨i, cap, cur, rfl, q1, q2, q3⟩
    · exact .inl h0
    · exact .inr ⟨i, cap, cur, rfl, q1, (setRow_other w1 g i _ (h5 i rfl).2).trans q2, q3⟩
  · exact (h3 k hk).kept fun a x ha hx => (World.cell?_of_block (setRow_other w1 g _ _ ha.2.1)).trans hx
  · refine ⟨ht.os, ht.tape, ht.output, by rw [size_setRow]; exact ht.size, fun i hi hn => (setRow_other w1 g i _ (fun e => ?_)).trans (ht.block i hi hn)⟩
    subst e
    rcases hY i h4 with e | e
    · exact hn e
    · omega
set_option maxRecDepth 100000 in
set_option maxHeartbeats 2000000 in
theorem add_any (Y : Nat → Prop) (g gd : Nat) (s : JrnS) (A : Option Addr) (n c : Nat) (d : List UInt8) (l : Nat → UInt8) (w : World) (h : JrnAt w Y g gd s) (hn : s.recs.length < 100000000) (hr : RdB w (fun i => i < w.heap.size) (.slice A n c) d) :
    Calls Tryd.prog 33 #[.pointer (some ⟨g, 0, none⟩), .slice A n c, .agg (arr 32 fun i => bv (l i))] w fun e w' => e = .returned (.tuple #[]) ∧ JLeft Y g gd { s with recs := s.recs ++ [d], last := l } w w' := by
  have hnd : n = d.length := by
    obtain ⟨A', c', hv, _⟩ := hr
    injection hv with e1 e2 e3
  subst hnd
  obtain ⟨v, cs, h1, h2, h3, h4, h5, h6⟩ := h
  obtain ⟨gv, cv, rfl, _⟩ := own_len h2
  have HC1 : Hid (w.cell? ⟨g, 1, none⟩ = some (.slice gv s.recs.length cv)) := Lib.hid (by rw [h1.cell, arr_get, if_pos (by omega)]; rfl)
  obtain ⟨al, hal⟩ : ∃ al, (arr 32 fun i => bv (l i)) = al := ⟨_, rfl⟩
  rw [hal]
  have HAL := Lib.hid hal
  have HR := Lib.hid hr
  clear hal
  have hg := h6 g h4
  have HCL : Hid (∀ W, Below w.heap.size w W → Calls Tryd.prog 45 #[.slice A d.length c] W fun e w' => ∃ A' c', e = .returned (.slice A' d.length c') ∧ RdB w' (fun b => W.heap.size ≤ b ∧ b < w'.heap.size) (.slice A' d.length c') d ∧ Below W.heap.size W w') := Lib.hid fun W hb => (clone_any A c d W ((HR.out.kept fun i x hi h => (hb.cell (p := i) hi).trans h).mono fun i hi => Nat.lt_of_lt_of_le hi hb.size)).mono (by
    rintro e w' ⟨A', c', he, q1, _, q2⟩
    exact ⟨A', c', he, q1, q2⟩)
  have HPART : Hid (∀ W A c, Below w.heap.size w W → RdB W (fun i => w.heap.size ≤ i ∧ i < W.heap.size) (.slice A d.length c) d → ∃ gr cap w2, (Builtin.append_ #[57, 57] 57 #[.slice gv s.recs.length cv, .slice (some ⟨W.heap.size, 0, none⟩) 1 1]).run Tryd.prog (W.alloc (.cells #[.slice A d.length c] 42)) = .ok (.slice (some ⟨gr, 0, none⟩) (s.recs.length + 1) cap) w2 ∧
      Blk w2 g 78 (arr 35 (jF gd (.slice gv s.recs.length cv) s.last s.down)) ∧ JLeft Y g gd { s with recs := s.recs ++ [d] } w (w2.setCell ⟨g, 1, none⟩ (.slice (some ⟨gr, 0, none⟩) (s.recs.length + 1) cap)) ∧ ∀ i, w.heap.size ≤ i → i < W.heap.size → (w2.setCell ⟨g, 1, none⟩ (.slice (some ⟨gr, 0, none⟩) (s.recs.length + 1) cap)).heap[i]? = W.heap[i]?) := Lib.hid fun W A c hb hd => add_part h1 h2 h3 h4 h5 h6 hn hb hd
  clear h1 h2 h3 h4 h5 h6 hr hn
  go_enter Tryd.func33, Tryd.ntmps33
  go_upto_region 1 with fail
  generalize hW : World.alloc w _ = W
  have hb0 : Below w.heap.size w W := by rw [← hW]; exact (Below.refl _ _).alloc (Nat.le_refl _) _
  have k5 : Blk W w.heap.size 37 al := by rw [← hW]; exact Blk.newAt _ _ rfl rfl
  have hbX := hb0.drew
  have hk5 := k5.drew
  have hc1 : W.drew.cell? ⟨g, 1, none⟩ = some (.slice gv s.recs.length cv) := (hbX.cell (p := ⟨g, 1, none⟩) hg).trans HC1.out
  clear hb0 k5 hW
  refine wp_region_held_drew (S := fun _ => True) (by kernel_rfl) ?_ (fun hHeld => ?_)
  · exact trivial
  refine wpAnyH_take (i := 0) (oi := ⟨some 6, _, _, _, _, _⟩) (v := ?_) rfl (by kernel_rfl) (by kernel_rfl) (by kernel_rfl) (fun _ _ _ h => h) (Or.inl ⟨by rfl, ?_⟩) (by assumption) ?_
  rotate_left
  · intro w hSw; (try dsimp only at hSw); go_simp; try (with_reducible rfl)
  rotate_left 0
  try simp only [Act.put, List.setIfInBounds_toArray, List.set_cons_zero, List.set_cons_succ]
  refine wpAnyH_take (i := 1) (oi := ⟨some 7, _, _, _, _, _⟩) (v := ?_) rfl (by kernel_rfl) (by kernel_rfl) (by kernel_rfl) (fun _ _ _ h => h) (Or.inl ⟨by rfl, ?_⟩) (by assumption) ?_
  rotate_left
  · intro w hSw; (try dsimp only at hSw); go_simp; try (with_reducible rfl)
  rotate_left 0
  try simp only [Act.put, List.setIfInBounds_toArray, List.set_cons_zero, List.set_cons_succ]
  refine wpAnyH_take (i := 2) (oi := ⟨some 8, _, _, _, _, _⟩) (v := ?_) rfl (by kernel_rfl) (by kernel_rfl) (by kernel_rfl) (fun _ _ _ h => h) (Or.inl ⟨by rfl, ?_⟩) (by assumption) ?_
  rotate_left
  · intro w hSw; (try dsimp only at hSw); go_simp; try (with_reducible rfl)
  rotate_left 0
  try simp only [Act.put, List.setIfInBounds_toArray, List.set_cons_zero, List.set_cons_succ]
  refine wpAnyH_take (i := 3) (oi := ⟨some 9, _, _, _, _, _⟩) (v := ?_) rfl (by kernel_rfl) (by kernel_rfl) (by kernel_rfl) (fun _ _ _ h => h) (Or.inl ⟨by rfl, ?_⟩) (by assumption) ?_
  rotate_left
  · intro w hSw; (try dsimp only at hSw); go_simp; try (with_reducible rfl)
  rotate_left 0
  try simp only [Act.put, List.setIfInBounds_toArray, List.set_cons_zero, List.set_cons_succ]
  refine wpAnyH_take (i := 5) (oi := ⟨some 11, _, _, _, _, _⟩) (v := ?_) rfl (by kernel_rfl) (by kernel_rfl) (by kernel_rfl) (fun _ _ _ h => h) (Or.inl ⟨by rfl, ?_⟩) (by assumption) ?_
  rotate_left
  · intro w hSw; (try dsimp only at hSw); go_simp; try (with_reducible rfl)
  rotate_left 0
  try simp only [Act.put, List.setIfInBounds_toArray, List.set_cons_zero, List.set_cons_succ]
  refine wpAnyH_ready (rs := [4, 6]) (by kernel_rfl) (by simp) ?_
  refine (AllReadyH.cons (o := ⟨some 10, _, _, _, _, _⟩) rfl (fun K hK => ?_) (AllReadyH.cons (o := ⟨some 12, _, _, _, _, _⟩) rfl (fun K hK => ?_) AllReadyH.nil))
  · (try rw [if_pos (by rfl)])
    refine oper_loadJ 57 _ rfl _ _ rfl (loadVar_oneJ Tryd.underlying57 rfl hc1) ?_
    try dsimp only
    refine hK.out _ _ (trivial) (fun hHeld => ?_)
    clear hK K
    try simp only [Act.put, List.setIfInBounds_toArray, List.set_cons_zero, List.set_cons_succ]
    refine wpAnyH_ready (rs := [6]) (by kernel_rfl) (by simp) ?_
    refine (AllReadyH.cons (o := ⟨some 12, _, _, _, _, _⟩) rfl (fun K hK => ?_) AllReadyH.nil)
    (try rw [if_pos (by rfl)])
    go_simp
    refine (HCL.out _ hbX).mono ?_
    rintro e W3 ⟨A3, c3, rfl, hr3, hb3⟩
    replace hr3 := hr3.mono (ok' := fun i => w.heap.size ≤ i ∧ i < W3.heap.size) (fun i hi => ⟨Nat.le_trans hbX.size hi.1, hi.2⟩)
    replace hc1 := (hb3.cell (p := ⟨g, 1, none⟩) (Nat.lt_of_lt_of_le hg hbX.size)).trans hc1
    replace hk5 := hk5.below hb3 hk5.lt
    replace hbX := hbX.trans (hb3.mono hbX.size)
    try dsimp only
    refine hK.out _ _ (trivial) (fun hHeld => ?_)
    clear hK K
    try simp only [Act.put, List.setIfInBounds_toArray, List.set_cons_zero, List.set_cons_succ]
    refine wpAnyH_ready (rs := [7]) (by kernel_rfl) (by simp) ?_
    refine (AllReadyH.cons (o := ⟨some 13, _, _, _, _, _⟩) rfl (fun K hK => ?_) AllReadyH.nil)
    (try rw [if_pos (by rfl)])
    go_simp
    replace hc1 := (((Below.refl W3.heap.size W3).alloc (Nat.le_refl _) (.cells #[.slice A3 d.length c3] 42)).cell (p := ⟨g, 1, none⟩) (Nat.lt_of_lt_of_le hg hbX.size)).trans hc1
    try dsimp only
    refine hK.out _ _ (trivial) (fun hHeld => ?_)
    clear hK K
    try simp only [Act.put, List.setIfInBounds_toArray, List.set_cons_zero, List.set_cons_succ]
    refine wpAnyH_ready (rs := [8]) (by kernel_rfl) (by simp) ?_
    refine (AllReadyH.cons (o := ⟨some 14, _, _, _, _, _⟩) rfl (fun K hK => ?_) AllReadyH.nil)
    (try rw [if_pos (by rfl)])
    obtain ⟨gr, cap, w5, hrun, hb5, hl5, hq5⟩ := HPART.out _ _ _ hbX hr3
    have hc5 : w5.cell? ⟨g, 1, none⟩ = some (.slice gv s.recs.length cv) := by rw [hb5.cell, arr_get, if_pos (by omega)]; rfl
    have hf5 := hb5.frozen 1
    refine oper_appendJ _ _ _ _ rfl _ _ rfl rfl _ _ hrun ?_
    try dsimp only
    refine hK.out _ _ (trivial) (fun hHeld => ?_)
    clear hK K
    try simp only [Act.put, List.setIfInBounds_toArray, List.set_cons_zero, List.set_cons_succ]
    refine wpAnyH_take (i := 9) (oi := ⟨some 15, _, _, _, _, _⟩) (v := ?_) rfl (by kernel_rfl) (by kernel_rfl) (by kernel_rfl) (fun _ _ _ h => h) (Or.inl ⟨by rfl, ?_⟩) (by assumption) ?_
    rotate_left
    · intro w hSw; (try dsimp only at hSw); go_simp; try (with_reducible rfl)
    rotate_left 0
    try simp only [Act.put, List.setIfInBounds_toArray, List.set_cons_zero, List.set_cons_succ]
    refine wpAnyH_take (i := 10) (oi := ⟨some 16, _, _, _, _, _⟩) (v := ?_) rfl (by kernel_rfl) (by kernel_rfl) (by kernel_rfl) (fun _ _ _ h => h) (Or.inl ⟨by rfl, ?_⟩) (by assumption) ?_
    rotate_left
    · intro w hSw; (try dsimp only at hSw); go_simp; try (with_reducible rfl)
    rotate_left 0
    try simp only [Act.put, List.setIfInBounds_toArray, List.set_cons_zero, List.set_cons_succ]
    refine wpAnyH_ready (rs := [11]) (by kernel_rfl) (by simp) ?_
    refine (AllReadyH.cons (o := ⟨none, _, _, _, _, _⟩) rfl (fun K hK => ?_) AllReadyH.nil)
    (try rw [if_pos (by rfl)])
    go_simp
    try dsimp only
    refine hK.out _ _ (trivial) (fun hHeld => ?_)
    clear hK K
    try simp only [Act.put, List.setIfInBounds_toArray, List.set_cons_zero, List.set_cons_succ]
    refine wpAnyH_done (by kernel_rfl) ?_ _
    obtain ⟨v2, hb6, hl6⟩ := jrn_last hl5 l
    have hk6 : Blk (w5.setCell ⟨g, 1, none⟩ (.slice (some ⟨gr, 0, none⟩) (s.recs.length + 1) cap)) w.heap.size 37 al := (hq5 w.heap.size (Nat.le_refl _) hk5.lt).trans hk5
    generalize w5.setCell ⟨g, 1, none⟩ (.slice (some ⟨gr, 0, none⟩) (s.recs.length + 1) cap) = w6 at *
    clear hrun hb5 hl5 hq5 hc5 hf5 hc1 hk5 hr3 hb3 hbX
    go_wp2_with (first
      | (refine wpList_load_arr rfl 37 _ rfl w.heap.size rfl 37 _ _ hk6 Tryd.underlying37 rfl (by rw [← HAL.out, arr_size]; kernel_rfl) ?_)
      | (refine wpList_store_partJ rfl 37 _ _ rfl g 2 32 35 _ (fun i => bv (l i)) rfl (by show Value.agg al = _; rw [HAL.out]) 78 hb6 (by kernel_rfl) (by omega) (fun _ _ => rfl) ?_; intro w7 hw7; rw [jF_last] at hw7; subst hw7))
    go_end0
    exact ⟨rfl, hl6⟩
  · (try rw [if_pos (by rfl)])
    go_simp
    refine (HCL.out _ hbX).mono ?_
    rintro e W3 ⟨A3, c3, rfl, hr3, hb3⟩
    replace hr3 := hr3.mono (ok' := fun i => w.heap.size ≤ i ∧ i < W3.heap.size) (fun i hi => ⟨Nat.le_trans hbX.size hi.1, hi.2⟩)
    replace hc1 := (hb3.cell (p := ⟨g, 1, none⟩) (Nat.lt_of_lt_of_le hg hbX.size)).trans hc1
    replace hk5 := hk5.below hb3 hk5.lt
    replace hbX := hbX.trans (hb3.mono hbX.size)
    try dsimp only
    refine hK.out _ _ (trivial) (fun hHeld => ?_)
    clear hK K
    try simp only [Act.put, List.setIfInBounds_toArray, List.set_cons_zero, List.set_cons_succ]
    refine wpAnyH_ready (rs := [4, 7]) (by kernel_rfl) (by simp) ?_
    refine (AllReadyH.cons (o := ⟨some 10, _, _, _, _, _⟩) rfl (fun K hK => ?_) (AllReadyH.cons (o := ⟨some 13, _, _, _, _, _⟩) rfl (fun K hK => ?_) AllReadyH.nil))
    · (try rw [if_pos (by rfl)])
      refine oper_loadJ 57 _ rfl _ _ rfl (loadVar_oneJ Tryd.underlying57 rfl hc1) ?_
      try dsimp only
      refine hK.out _ _ (trivial) (fun hHeld => ?_)
      clear hK K
      try simp only [Act.put, List.setIfInBounds_toArray, List.set_cons_zero, List.set_cons_succ]
      refine wpAnyH_ready (rs := [7]) (by kernel_rfl) (by simp) ?_
      refine (AllReadyH.cons (o := ⟨some 13, _, _, _, _, _⟩) rfl (fun K hK => ?_) AllReadyH.nil)
      (try rw [if_pos (by rfl)])
      go_simp
      replace hc1 := (((Below.refl W3.heap.size W3).alloc (Nat.le_refl _) (.cells #[.slice A3 d.length c3] 42)).cell (p := ⟨g, 1, none⟩) (Nat.lt_of_lt_of_le hg hbX.size)).trans hc1
      try dsimp only
      refine hK.out _ _ (trivial) (fun hHeld => ?_)
      clear hK K
      try simp only [Act.put, List.setIfInBounds_toArray, List.set_cons_zero, List.set_cons_succ]
      refine wpAnyH_ready (rs := [8]) (by kernel_rfl) (by simp) ?_
      refine (AllReadyH.cons (o := ⟨some 14, _, _, _, _, _⟩) rfl (fun K hK => ?_) AllReadyH.nil)
      (try rw [if_pos (by rfl)])
      obtain ⟨gr, cap, w5, hrun, hb5, hl5, hq5⟩ := HPART.out _ _ _ hbX hr3
      have hc5 : w5.cell? ⟨g, 1, none⟩ = some (.slice gv s.recs.length cv) := by rw [hb5.cell, arr_get, if_pos (by omega)]; rfl
      have hf5 := hb5.frozen 1
      refine oper_appendJ _ _ _ _ rfl _ _ rfl rfl _ _ hrun ?_
      try dsimp only
      refine hK.out _ _ (trivial) (fun hHeld => ?_)
      clear hK K
      try simp only [Act.put, List.setIfInBounds_toArray, List.set_cons_zero, List.set_cons_succ]
      refine wpAnyH_take (i := 9) (oi := ⟨some 15, _, _, _, _, _⟩) (v := ?_) rfl (by kernel_rfl) (by kernel_rfl) (by kernel_rfl) (fun _ _ _ h => h) (Or.inl ⟨by rfl, ?_⟩) (by assumption) ?_
      rotate_left
      · intro w hSw; (try dsimp only at hSw); go_simp; try (with_reducible rfl)
      rotate_left 0
      try simp only [Act.put, List.setIfInBounds_toArray, List.set_cons_zero, List.set_cons_succ]
      refine wpAnyH_take (i := 10) (oi := ⟨some 16, _, _, _, _, _⟩) (v := ?_) rfl (by kernel_rfl) (by kernel_rfl) (by kernel_rfl) (fun _ _ _ h => h) (Or.inl ⟨by rfl, ?_⟩) (by assumption) ?_
      rotate_left
      · intro w hSw; (try dsimp only at hSw); go_simp; try (with_reducible rfl)
      rotate_left 0
      try simp only [Act.put, List.setIfInBounds_toArray, List.set_cons_zero, List.set_cons_succ]
      refine wpAnyH_ready (rs := [11]) (by kernel_rfl) (by simp) ?_
      refine (AllReadyH.cons (o := ⟨none, _, _, _, _, _⟩) rfl (fun K hK => ?_) AllReadyH.nil)
      (try rw [if_pos (by rfl)])
      go_simp
      try dsimp only
      refine hK.out _ _ (trivial) (fun hHeld => ?_)
      clear hK K
      try simp only [Act.put, List.setIfInBounds_toArray, List.set_cons_zero, List.set_cons_succ]
      refine wpAnyH_done (by kernel_rfl) ?_ _
      obtain ⟨v2, hb6, hl6⟩ := jrn_last hl5 l
      have hk6 : Blk (w5.setCell ⟨g, 1, none⟩ (.slice (some ⟨gr, 0, none⟩) (s.recs.length + 1) cap)) w.heap.size 37 al := (hq5 w.heap.size (Nat.le_refl _) hk5.lt).trans hk5
      generalize w5.setCell ⟨g, 1, none⟩ (.slice (some ⟨gr, 0, none⟩) (s.recs.length + 1) cap) = w6 at *
      clear hrun hb5 hl5 hq5 hc5 hf5 hc1 hk5 hr3 hb3 hbX
      go_wp2_with (first
        | (refine wpList_load_arr rfl 37 _ rfl w.heap.size rfl 37 _ _ hk6 Tryd.underlying37 rfl (by rw [← HAL.out, arr_size]; kernel_rfl) ?_)
        | (refine wpList_store_partJ rfl 37 _ _ rfl g 2 32 35 _ (fun i => bv (l i)) rfl (by show Value.agg al = _; rw [HAL.out]) 78 hb6 (by kernel_rfl) (by omega) (fun _ _ => rfl) ?_; intro w7 hw7; rw [jF_last] at hw7; subst hw7))
      go_end0
      exact ⟨rfl, hl6⟩
    · (try rw [if_pos (by rfl)])
      go_simp
      replace hc1 := (((Below.refl W3.heap.size W3).alloc (Nat.le_refl _) (.cells #[.slice A3 d.length c3] 42)).cell (p := ⟨g, 1, none⟩) (Nat.lt_of_lt_of_le hg hbX.size)).trans hc1
      try dsimp only
      refine hK.out _ _ (trivial) (fun hHeld => ?_)
      clear hK K
      try simp only [Act.put, List.setIfInBounds_toArray, List.set_cons_zero, List.set_cons_succ]
      refine wpAnyH_ready (rs := [4]) (by kernel_rfl) (by simp) ?_
      refine (AllReadyH.cons (o := ⟨some 10, _, _, _, _, _⟩) rfl (fun K hK => ?_) AllReadyH.nil)
      (try rw [if_pos (by rfl)])
      refine oper_loadJ 57 _ rfl _ _ rfl (loadVar_oneJ Tryd.underlying57 rfl hc1) ?_
      try dsimp only
      refine hK.out _ _ (trivial) (fun hHeld => ?_)
      clear hK K
      try simp only [Act.put, List.setIfInBounds_toArray, List.set_cons_zero, List.set_cons_succ]
      refine wpAnyH_ready (rs := [8]) (by kernel_rfl) (by simp) ?_
      refine (AllReadyH.cons (o := ⟨some 14, _, _, _, _, _⟩) rfl (fun K hK => ?_) AllReadyH.nil)
      (try rw [if_pos (by rfl)])
      obtain ⟨gr, cap, w5, hrun, hb5, hl5, hq5⟩ := HPART.out _ _ _ hbX hr3
      have hc5 : w5.cell? ⟨g, 1, none⟩ = some (.slice gv s.recs.length cv) := by rw [hb5.cell, arr_get, if_pos (by omega)]; rfl
      have hf5 := hb5.frozen 1
      refine oper_appendJ _ _ _ _ rfl _ _ rfl rfl _ _ hrun ?_
      try dsimp only
      refine hK.out _ _ (trivial) (fun hHeld => ?_)
      clear hK K
      try simp only [Act.put, List.setIfInBounds_toArray, List.set_cons_zero, List.set_cons_succ]
      refine wpAnyH_take (i := 9) (oi := ⟨some 15, _, _, _, _, _⟩) (v := ?_) rfl (by kernel_rfl) (by kernel_rfl) (by kernel_rfl) (fun _ _ _ h => h) (Or.inl ⟨by rfl, ?_⟩) (by assumption) ?_
      rotate_left
      · intro w hSw; (try dsimp only at hSw); go_simp; try (with_reducible rfl)
      rotate_left 0
      try simp only [Act.put, List.setIfInBounds_toArray, List.set_cons_zero, List.set_cons_succ]
      refine wpAnyH_take (i := 10) (oi := ⟨some 16, _, _, _, _, _⟩) (v := ?_) rfl (by kernel_rfl) (by kernel_rfl) (by kernel_rfl) (fun _ _ _ h => h) (Or.inl ⟨by rfl, ?_⟩) (by assumption) ?_
      rotate_left
      · intro w hSw; (try dsimp only at hSw); go_simp; try (with_reducible rfl)
      rotate_left 0
      try simp only [Act.put, List.setIfInBounds_toArray, List.set_cons_zero, List.set_cons_succ]
      refine wpAnyH_ready (rs := [11]) (by kernel_rfl) (by simp) ?_
      refine (AllReadyH.cons (o := ⟨none, _, _, _, _, _⟩) rfl (fun K hK => ?_) AllReadyH.nil)
      (try rw [if_pos (by rfl)])
      go_simp
      try dsimp only
      refine hK.out _ _ (trivial) (fun hHeld => ?_)
      clear hK K
      try simp only [Act.put, List.setIfInBounds_toArray, List.set_cons_zero, List.set_cons_succ]
      refine wpAnyH_done (by kernel_rfl) ?_ _
      obtain ⟨v2, hb6, hl6⟩ := jrn_last hl5 l
      have hk6 : Blk (w5.setCell ⟨g, 1, none⟩ (.slice (some ⟨gr, 0, none⟩) (s.recs.length + 1) cap)) w.heap.size 37 al := (hq5 w.heap.size (Nat.le_refl _) hk5.lt).trans hk5
      generalize w5.setCell ⟨g, 1, none⟩ (.slice (some ⟨gr, 0, none⟩) (s.recs.length + 1) cap) = w6 at *
      clear hrun hb5 hl5 hq5 hc5 hf5 hc1 hk5 hr3 hb3 hbX
      go_wp2_with (first
        | (refine wpList_load_arr rfl 37 _ rfl w.heap.size rfl 37 _ _ hk6 Tryd.underlying37 rfl (by rw [← HAL.out, arr_size]; kernel_rfl) ?_)
        | (refine wpList_store_partJ rfl 37 _ _ rfl g 2 32 35 _ (fun i => bv (l i)) rfl (by show Value.agg al = _; rw [HAL.out]) 78 hb6 (by kernel_rfl) (by omega) (fun _ _ => rfl) ?_; intro w7 hw7; rw [jF_last] at hw7; subst hw7))
      go_end0
      exact ⟨rfl, hl6⟩
end Go.Proofs.YtkbdkeclbokhdaaDoor
