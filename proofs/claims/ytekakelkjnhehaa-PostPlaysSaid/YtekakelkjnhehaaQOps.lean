/-
  Layer 21: steps as they lie: forty-eight cells each. No condition.
  Layer 21: a post beside the document's: what is on its way in both, whatever of the law's own lies beside. In whatever memory. No condition.
-/
import Derived.Test.YtekakelkjnhehaaQMls
import Derived.Test.YtekakelkjnhehaaPstCar
namespace Go.Proofs.Ytekakelkjnhehaa
open Go Go.RowKit

structure OpP where
  kind : Int
  pos : Int
  fc : Bool
  fn : Int
  tc : Bool
  tn : Int
  r : Raw
  bs : List UInt8
def opF (o : OpP) (d i l u : Value) : Nat → Value
  | 0 => .int .i64 o.kind
  | 1 => .int .i64 o.pos
  | 2 => .bool o.fc
  | 3 => .int .i64 o.fn
  | 4 => .bool o.tc
  | 5 => .int .i64 o.tn
  | k => if k < 47 then msgF o.r d i l (k - 6) else u
def opA (o : OpP) (d i l u : Value) : Array Value := arr 48 (opF o d i l u)
def RdOpsP (W : World) (ok : Nat → Prop) (A : Option Addr) (ops : List OpP) : Prop :=
  ∀ k, k < ops.length → ∃ (ad : Addr) (o : OpP) (d i l u : Value), A = some ad ∧ ok ad.block ∧ ops[k]? = some o ∧ (∀ j, j < 48 → W.cell? (ad.add (48 * k + j)) = some (opF o d i l u j)) ∧ RdR W ok o.r d i l ∧ RdB W ok u o.bs
theorem op_bytes {r : Raw} {d i l : Value} {W : World} {ok : Nat → Prop} (h : RdR W ok r d i l) : ∃ A c, d = .slice A r.data.length c := RdB.shape h.data
theorem op_one {o : OpP} {d i l u : Value} {W : World} {ok : Nat → Prop} (h : RdR W ok o.r d i l) (hu : RdB W ok u o.bs) : (opA o d i l u).all (·.oneCell') = true := by
  obtain ⟨A, c, e1⟩ := op_bytes h
  obtain ⟨A', c', e2, _⟩ := h.ids
  obtain ⟨A'', c'', e3, _⟩ := h.list
  obtain ⟨A3, c3, e4⟩ := RdB.shape hu
  rw [Array.all_eq_true_iff_forall_mem]
  intro x hx
  obtain ⟨j, hj, rfl⟩ := Array.mem_iff_getElem.1 hx
  have hj' : j < 48 := by unfold opA at hj; rwa [arr_size] at hj
  have h1 : (opA o d i l u)[j]? = some (opF o d i l u j) := by unfold opA; rw [arr_get, if_pos hj']
  rw [Array.getElem?_eq_getElem hj, Option.some.injEq] at h1
  rw [h1]
  have hm : ∀ q, q < 41 → (msgF o.r d i l q).oneCell' = true := fun q hq => by
    unfold msgF
    split <;> try rfl
    split
    · rfl
    · split
      · rw [e1]; rfl
      · split
        · rw [e2]; rfl
        · rw [e3]; rfl
  unfold opF
  split <;> try rfl
  split
  · exact hm _ (by omega)
  · rw [e4]; rfl
end Go.Proofs.Ytekakelkjnhehaa
namespace Go.Proofs.Ytekakelkjnhehaa
open Go Go.RowKit

/-- The post in block g holds l, the document's row v holds lr; X: the law's own blocks. -/
def PLQ (w : World) (g : Nat) (X : Nat → Prop) (v : Value) (l lr : List MailS) (W : World) : Prop :=
  ∃ Y, PostAt W Y g l ∧ RdC 5 W (fun b => b < W.heap.size ∧ b ≠ g ∧ ¬ X b) v (refsC lr) ∧ (∀ b, Y b → w.heap.size ≤ b) ∧ Below w.heap.size w W ∧ (∀ b, X b → w.heap.size ≤ b ∧ b < W.heap.size ∧ ¬ Y b) ∧ lr.length ≤ 600
section
variable {w W W' : World} {g : Nat} {X : Nat → Prop} {v : Value} {l lr : List MailS}
theorem PLQ.old (h : PLQ w g X v l lr W) : Below w.heap.size w W := by obtain ⟨Y, _, _, _, h4, _⟩ := h; exact h4
theorem PLQ.fewR (h : PLQ w g X v l lr W) : lr.length ≤ 600 := by obtain ⟨Y, _, _, _, _, _, h⟩ := h; exact h
theorem PLQ.few (h : PLQ w g X v l lr W) : l.length ≤ 600 := by obtain ⟨Y, h, _⟩ := h; exact h.len
theorem PLQ.at (h : PLQ w g X v l lr W) : w.heap.size ≤ g ∧ g < W.heap.size := by obtain ⟨Y, h1, _, h3, _⟩ := h; exact ⟨h3 g h1.mem, h1.lt g h1.mem⟩
theorem PLQ.form (h : PLQ w g X v l lr W) : ∃ A c, v = .slice A lr.length c := by
  obtain ⟨Y, _, h2, _⟩ := h
  obtain ⟨A, c, e, _⟩ := RdC.form h2
  rw [refsC_length] at e
  exact ⟨A, c, e⟩
theorem PLQ.rd (h : PLQ w g X v l lr W) : RdC 5 W (fun b => b < W.heap.size ∧ b ≠ g ∧ ¬ X b) v (refsC lr) := by obtain ⟨Y, _, h2, _⟩ := h; exact h2
theorem PLQ.off (h : PLQ w g X v l lr W) {b : Nat} (hb : X b) : b ≠ g := by
  obtain ⟨Y, h1, _, _, _, h5, _⟩ := h
  exact fun e => (h5 b hb).2.2 (e ▸ h1.mem)
theorem PLQ.lt (h : PLQ w g X v l lr W) {b : Nat} (hb : X b) : b < W.heap.size ∧ w.heap.size ≤ b := by
  obtain ⟨Y, h1, _, _, _, h5, _⟩ := h
  exact ⟨(h5 b hb).2.1, (h5 b hb).1⟩
theorem PLQ.below (h : PLQ w g X v l lr W) (hb : Below W.heap.size W W') : PLQ w g X v l lr W' := by
  obtain ⟨Y, h1, h2, h3, h4, h5, h6⟩ := h
  exact ⟨Y, h1.below hb, (RdC.kept h2 fun a x ha hx => (hb.cell (p := a) ha.1).trans hx).mono fun b hb' => ⟨Nat.lt_of_lt_of_le hb'.1 hb.size, hb'.2⟩, h3, h4.trans (hb.mono h4.size), fun b hb' => ⟨(h5 b hb').1, Nat.lt_of_lt_of_le (h5 b hb').2.1 hb.size, (h5 b hb').2.2⟩, h6⟩
/-- Memory of the law's own. -/
theorem PLQ.own (h : PLQ w g X v l lr W) (o : Obj) : PLQ w g (fun b => X b ∨ b = W.heap.size) v l lr (W.alloc o) := by
  have hb : Below W.heap.size W (W.alloc o) := (Below.refl _ _).alloc (Nat.le_refl _) _
  have hs : (W.alloc o).heap.size = W.heap.size + 1 := by simp
  obtain ⟨Y, h1, h2, h3, h4, h5, h6⟩ := h
  refine ⟨Y, h1.below hb, (RdC.kept h2 fun a x ha hx => (hb.cell (p := a) ha.1).trans hx).mono fun b hb' => ⟨by omega, hb'.2.1, fun hx => hx.elim hb'.2.2 fun e => by omega⟩, h3, h4.trans (hb.mono h4.size), fun b hb' => ?_, h6⟩
  rcases hb' with h | rfl
  · exact ⟨(h5 b h).1, by have := (h5 b h).2.1; omega, (h5 b h).2.2⟩
  · exact ⟨h4.size, by omega, fun hy => by have := h1.lt _ hy; omega⟩
theorem PLQ.set (h : PLQ w g X v l lr W) {b : Nat} (hb : X b) (cs : Array Value) : PLQ w g X v l lr (W.setRow b cs) := by
  have ht : Turn (fun i => i = b) W (W.setRow b cs) := Turn.setRow (S := fun i => i = b) (Turn.refl _ W) (fun _ => rfl) _
  obtain ⟨Y, h1, h2, h3, h4, h5, h6⟩ := h
  exact ⟨Y, h1.turn ht (fun i hi e => (h5 b hb).2.2 (e ▸ hi)), (RdC.turn h2 ht fun i hi e => hi.2.2 (e ▸ hb)).mono fun i hi => ⟨Nat.lt_of_lt_of_le hi.1 ht.size, hi.2⟩, h3, below_turn h4 (Nat.le_refl _) ht fun i hi => by rw [hi]; exact (h5 b hb).1, fun i hi => ⟨(h5 i hi).1, Nat.lt_of_lt_of_le (h5 i hi).2.1 ht.size, (h5 i hi).2.2⟩, h6⟩
theorem PLQ.weak (h : PLQ w g X v l lr W) {X' : Nat → Prop} (hx : ∀ b, X' b → X b) : PLQ w g X' v l lr W := by
  obtain ⟨Y, h1, h2, h3, h4, h5, h6⟩ := h
  exact ⟨Y, h1, RdC.mono h2 fun b hb => ⟨hb.1, hb.2.1, fun h => hb.2.2 (hx b h)⟩, h3, h4, fun b hb => h5 b (hx b hb), h6⟩
/-- The document has gone on. -/
theorem PLQ.ref (h : PLQ w g X v l lr W) {v' : Value} {lr' : List MailS} (hr : RdC 5 W' (fun b => (b < W.heap.size ∧ b ≠ g ∧ ¬ X b) ∨ (W.heap.size ≤ b ∧ b < W'.heap.size)) v' (refsC lr')) (hb : Below W.heap.size W W') (hl : lr'.length ≤ 600) : PLQ w g X v' l lr' W' := by
  obtain ⟨Y, h1, h2, h3, h4, h5, h6⟩ := h.below hb
  have hg := h.at
  refine ⟨Y, h1, RdC.mono hr fun b hb' => ?_, h3, h4, h5, hl⟩
  rcases hb' with q | q
  · exact ⟨Nat.lt_of_lt_of_le q.1 hb.size, q.2⟩
  · exact ⟨q.2, by omega, fun hx => by have := (h.lt hx).1; omega⟩
theorem plq_left {Y : Nat → Prop} {l' : List MailS} (h1 : PostAt W Y g l) (h2 : RdC 5 W (fun b => b < W.heap.size ∧ b ≠ g ∧ ¬ X b) v (refsC lr)) (h3 : ∀ b, Y b → w.heap.size ≤ b) (h4 : Below w.heap.size w W) (h5 : ∀ b, X b → w.heap.size ≤ b ∧ b < W.heap.size ∧ ¬ Y b) (h6 : lr.length ≤ 600) (hq : PLeft Y g l' W W') : PLQ w g X v l' lr W' ∧ Turn (fun i => i = g) W W' := by
  obtain ⟨Y', q1, q2, q3⟩ := hq
  refine ⟨⟨Y', q1, (RdC.turn h2 q2 fun i hi e => hi.2.1 e).mono fun i hi => ⟨Nat.lt_of_lt_of_le hi.1 q2.size, hi.2⟩, fun i hi => ?_, below_turn h4 (Nat.le_refl _) q2 fun i hi => by rw [hi]; exact h3 g h1.mem, fun i hi => ⟨(h5 i hi).1, Nat.lt_of_lt_of_le (h5 i hi).2.1 q2.size, fun hy => ?_⟩, h6⟩, q2⟩
  · rcases q3 i hi with h | h
    · exact h3 i h
    · exact Nat.le_trans h4.size h
  · rcases q3 i hy with h | h
    · exact (h5 i hi).2.2 h
    · have := (h5 i hi).2.1
      omega
theorem PLQ.send (h : PLQ w g X v l lr W) (r : Raw) (d i n : Value) (fc tc : Bool) (fn tn : Int) (hr : RdR W (fun b => b < W.heap.size) r d i n) :
    Calls Try.prog 10 #[.pointer (some ⟨g, 0, none⟩), .agg #[.bool fc, .int .i64 fn], .agg #[.bool tc, .int .i64 tn], .agg (msgA r d i n)] W fun e w' => e = .returned (.int .i64 (sendE r l)) ∧ PLQ w g X v (sendM r ⟨fc, fn, tc, tn, []⟩ l) lr w' ∧ Turn (fun i => i = g) W w' := by
  obtain ⟨Y, h1, h2, h3, h4, h5, h6⟩ := h
  refine (postSend_any r d i n fc tc fn tn h1 hr).mono ?_
  rintro e w' ⟨rfl, hq⟩
  exact ⟨rfl, plq_left h1 h2 h3 h4 h5 h6 hq⟩
theorem PLQ.put (h : PLQ w g X v l lr W) (m : MailS) (u : Value) (hr : RdB W (fun b => b < W.heap.size) u m.bs) :
    Calls Try.prog 11 #[.pointer (some ⟨g, 0, none⟩), mailV m u] W fun e w' => e = .returned (.int .i64 (putE l)) ∧ PLQ w g X v (putM l m) lr w' ∧ Turn (fun i => i = g) W w' := by
  obtain ⟨Y, h1, h2, h3, h4, h5, h6⟩ := h
  refine (postPut_any h1 hr).mono ?_
  rintro e w' ⟨rfl, hq⟩
  exact ⟨rfl, plq_left h1 h2 h3 h4 h5 h6 hq⟩
theorem PLQ.take (h : PLQ w g X v l lr W) (i : Int) :
    Calls Try.prog 13 #[.pointer (some ⟨g, 0, none⟩), .int .i64 i] W fun e w' => ∃ u, e = .returned (.tuple #[mailV (atM l i) u, .int .i64 (codeM l i)]) ∧ RdB w' (fun b => W.heap.size ≤ b ∧ b < w'.heap.size) u (atM l i).bs ∧ PLQ w g X v (takeM l i) lr w' ∧ Turn (fun i => i = g) W w' := by
  obtain ⟨Y, h1, h2, h3, h4, h5, h6⟩ := h
  refine (postTake_any i h1).mono ?_
  rintro e w' ⟨u, rfl, hu, hq⟩
  exact ⟨u, rfl, hu, plq_left h1 h2 h3 h4 h5 h6 hq⟩
theorem PLQ.twice (h : PLQ w g X v l lr W) (i : Int) :
    Calls Try.prog 15 #[.pointer (some ⟨g, 0, none⟩), .int .i64 i] W fun e w' => e = .returned (.int .i64 (twiceE l i)) ∧ PLQ w g X v (twiceM l i) lr w' ∧ Turn (fun i => i = g) W w' := by
  obtain ⟨Y, h1, h2, h3, h4, h5, h6⟩ := h
  refine (postTwice_any i h1).mono ?_
  rintro e w' ⟨rfl, hq⟩
  exact ⟨rfl, plq_left h1 h2 h3 h4 h5 h6 hq⟩
theorem PLQ.len (h : PLQ w g X v l lr W) : Calls Try.prog 16 #[.pointer (some ⟨g, 0, none⟩)] W fun e w' => e = .returned (.int .i64 (l.length : Int)) ∧ w' = W := by
  obtain ⟨Y, h1, _⟩ := h
  exact postLen_any h1
theorem PLQ.mails (h : PLQ w g X v l lr W) : Calls Try.prog 17 #[.pointer (some ⟨g, 0, none⟩)] W fun e w' => ∃ v, e = .returned v ∧ RdM w' (fun b => W.heap.size ≤ b ∧ b < w'.heap.size) v l ∧ Below W.heap.size W w' := by
  obtain ⟨Y, h1, _⟩ := h
  exact mails_any h1
theorem PLQ.refPut (h : PLQ w g X v l lr W) (m : MailS) : Calls Try.prog 8 #[v, refV m] W fun e w' => ∃ v', e = .returned (.tuple #[v', .int .i64 (putE lr)]) ∧ PLQ w g X v' l (putM lr m) w' ∧ Below W.heap.size W w' := by
  refine (refPut_any lr m v W h.rd (fun b hb => hb.1) h.fewR).mono ?_
  rintro e w' ⟨v', rfl, hr, hb⟩
  refine ⟨v', rfl, h.ref hr hb ?_, hb⟩
  have := h.fewR
  unfold putM
  split
  · omega
  · rw [List.length_append, List.length_singleton]
    omega
theorem PLQ.refTake (h : PLQ w g X v l lr W) (i : Int) : Calls Try.prog 12 #[v, .int .i64 i] W fun e w' => ∃ v', e = .returned (.tuple #[v', refV (atM lr i), .int .i64 (codeM lr i)]) ∧ PLQ w g X v' l (takeM lr i) w' ∧ Below W.heap.size W w' := by
  refine (refTake_any lr i v W h.rd (fun b hb => hb.1) h.fewR).mono ?_
  rintro e w' ⟨v', rfl, hr, hb⟩
  refine ⟨v', rfl, h.ref hr hb ?_, hb⟩
  have := h.fewR
  unfold takeM
  split
  · rw [List.length_append, List.length_take, List.length_drop]
    omega
  · omega
theorem PLQ.refTwice (h : PLQ w g X v l lr W) (i : Int) : Calls Try.prog 14 #[v, .int .i64 i] W fun e w' => ∃ v', e = .returned (.tuple #[v', .int .i64 (twiceE lr i)]) ∧ PLQ w g X v' l (twiceM lr i) w' ∧ Below W.heap.size W w' := by
  refine (refTwice_any lr i v W h.rd (fun b hb => hb.1) h.fewR).mono ?_
  rintro e w' ⟨v', rfl, hr, hb⟩
  refine ⟨v', rfl, h.ref hr hb ?_, hb⟩
  have := h.fewR
  unfold twiceM putM
  split
  · split
    · omega
    · rw [List.length_append, List.length_singleton]
      omega
  · omega
theorem PLQ.refHere (h : PLQ w g X v l lr W) {i : Nat} {m : MailS} (hm : lr[i]? = some m) : ∃ ad c, v = .slice (some ad) lr.length c ∧ ∀ W', Below W.heap.size W W' → (Instr.loadAt 45 (.pointer (some (ad.add (i * 5))))).run Try.prog W' = .ok (refV m) W' :=
  RdRef.here (B := W.heap.size) (RdC.mono h.rd fun _b hb => hb.1) hm
end
theorem plq_start {w W : World} (hb : Below w.heap.size w W) : PLQ w W.heap.size (fun _ => False) (.slice none 0 0) [] [] (W.alloc (.cells #[.slice none 0 0] 26)) :=
  ⟨_, post_new W, RdC.nil _ _ 0, fun b hb' => by rw [hb']; exact hb.size, hb.alloc hb.size _, fun b h => h.elim, Nat.zero_le _⟩
/-! Two messages that are alike -/
theorem eql_boolP (d : Nat) (a : Bool) (w : World) : (Op.equalIn (d + 1) 4 (.bool a) (.bool a)).run Try.prog w = .ok true w := by
  simp [Op.equalIn, run_underlying Try.underlying4]
theorem eql_intP (d : Nat) (n : Int) (w : World) : (Op.equalIn (d + 1) 3 (.int .i64 n) (.int .i64 n)).run Try.prog w = .ok true w := by
  simp [Op.equalIn, run_underlying Try.underlying3]
theorem eql_strP (d : Nat) (s : ByteArray) (w : World) : (Op.equalIn (d + 1) 9 (.string s) (.string s)).run Try.prog w = .ok true w := by
  simp [Op.equalIn, run_underlying Try.underlying9, beq_toListBytes]
theorem eql_ref (d : Nat) (a b : Bool) (c e : Int) (s : ByteArray) (w : World) : (Op.equalIn (d + 2) 45 (.agg #[.bool a, .bool b, .int .i64 c, .int .i64 e, .string s]) (.agg #[.bool a, .bool b, .int .i64 c, .int .i64 e, .string s])).run Try.prog w = .ok true w := by
  have hst : Try.prog.stoodInHeld 45 = false := by kernel_rfl
  rw [run_equalIn_struct w (d + 1) _ _ _ (by unfold Program.fieldsOf; rw [Try.underlying45]) hst]
  unfold Program.fieldsOf
  rw [Try.underlying45]
  simp [Op.eqFields, Sem.run_bind, part, isAgg, run_underlying Try.underlying4, run_underlying Try.underlying3, run_underlying Try.underlying9, eql_boolP, eql_intP, eql_strP]
theorem neq_ref (m : MailS) (w : World) : (binOp .neq 45 (refV m) (refV m)).run Try.prog w = .ok (.bool false) w := by
  unfold refV
  have := eql_ref 9998 m.fc m.tc m.fn m.tn ⟨m.bs.toArray⟩ w
  rw [run_neq_struct, this]
  rfl
end Go.Proofs.Ytekakelkjnhehaa
