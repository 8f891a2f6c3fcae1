/-
  TimerOnce: what was seen, as a map; which timers are over when. No condition.
-/
import Derived.Test.YtgcpiaogodgphaaTmrNum
import Derived.Test.YtgcpiaogodgphaaMapV
namespace Go.Proofs.Ytgcpiaogodgphaa
open Go Go.RowKit Go.Maps

/-! The map of what was seen. -/
theorem int_law : Keyed Try.prog 3 := int_keyed Try.underlying3
def wf64 (i : Int) : Prop := (Lit.int .i64 i).wf = true
theorem key_int {i : Int} (h : wf64 i) : keyOf Try.prog 3 (.int .i64 i) = some (.int .i64 i) := keyOf_int_mk Try.underlying3 h
/-- Block b is a map that holds true for just these, each of them once. -/
def SeenM (W : World) (b : Nat) (S : List Int) : Prop :=
  ∃ D, W.ownsMap Try.prog 3 holdV b S.length D ∧ size D = S.length ∧ ∀ i, wf64 i → has D (.int .i64 i) = decide (i ∈ S) ∧ ∀ z, D.atKey (.int .i64 i) z = if i ∈ S then .held (.bool true) else z
theorem seenM_made (w : World) : SeenM (w.alloc (.map #[] 0)) w.heap.size [] :=
  ⟨_, World.ownsMap_made w _ _ _, by simp [size], fun i _ => ⟨by simp [has], fun z => by simp [DataW.atKey]⟩⟩
section
variable {W W' : World} {b : Nat} {S S' : List Int}
theorem SeenM.lt (h : SeenM W b S) : b < W.heap.size := by
  obtain ⟨D, h, _⟩ := h
  exact h.lt
theorem SeenM.same (h : SeenM W b S) (hb : W'.heap[b]? = W.heap[b]?) : SeenM W' b S := by
  obtain ⟨D, ⟨es, clock, h1, h2⟩, h3⟩ := h
  exact ⟨D, ⟨es, clock, hb.trans h1, h2⟩, h3⟩
theorem SeenM.congr (h : SeenM W b S) (hl : S'.length = S.length) (hm : ∀ i, i ∈ S' ↔ i ∈ S) : SeenM W b S' := by
  obtain ⟨D, h1, h2, h3⟩ := h
  refine ⟨D, by rw [hl]; exact h1, by rw [hl]; exact h2, fun i hi => ⟨by rw [(h3 i hi).1]; exact decide_eq_decide.2 (hm i).symm, fun z => ?_⟩⟩
  rw [(h3 i hi).2]
  by_cases hs : i ∈ S
  · rw [if_pos hs, if_pos ((hm i).2 hs)]
  · rw [if_neg hs, if_neg (fun h => hs ((hm i).1 h))]
theorem bool_zero (w : World) : (zeroValue 4).run Try.prog w = .ok (.bool false) w := by kernel_rfl
theorem SeenM.look (h : SeenM W b S) {i : Int} (hi : wf64 i) (hn : i ∉ S) : (Instr.lookup 47 (.map (some b)) (.int .i64 i) false).run Try.prog W = .ok (.bool false) W := by
  obtain ⟨D, h1, h2, h3⟩ := h
  obtain ⟨v, ps, hrun, hv⟩ := h1.lookup int_law Try.underlying47 (bool_zero W) (zd := .held (.bool false)) (zp := []) rfl (key_int hi)
  rw [(h3 i hi).2, if_neg hn, holdV] at hv
  simp only [Option.some.injEq, Prod.mk.injEq, DataW.held.injEq] at hv
  rw [hrun, hv.1]
theorem SeenM.store (h : SeenM W b S) {i : Int} (hi : wf64 i) (hn : i ∉ S) (hl : S.length < maxLen) : ∃ w', (Instr.mapUpdate 47 (.map (some b)) (.int .i64 i) (.bool true)).run Try.prog W = .ok () w' ∧ SeenM w' b (S ++ [i]) ∧ W.mapTurned w' b := by
  obtain ⟨D, h1, h2, h3⟩ := h
  obtain ⟨w', hrun, q2, q3⟩ := h1.store int_law Try.underlying47 hl (d := .held (.bool true)) (ps := []) (key_int hi) rfl
  have hlen : (S ++ [i]).length = S.length + 1 := by simp
  refine ⟨w', hrun, ⟨_, by rw [hlen]; exact q2, ?_, fun k hk => ?_⟩, q3⟩
  · rw [size_put (h1.tidy int_law), (h3 i hi).1, decide_eq_false hn, hlen, h2]
    simp
  · by_cases hki : k = i
    · subst hki
      rw [has_put_same h1.isMap (int_law.key (key_int hi)) _]
      exact ⟨by simp, fun z => by rw [atKey_put_same h1.isMap (int_law.key (key_int hi)) _ _, if_pos (by simp)]⟩
    · have hne : (Lit.int .i64 k) ≠ (Lit.int .i64 i) := fun e => hki (by injection e)
      rw [has_put_other hne, (h3 k hk).1]
      refine ⟨decide_eq_decide.2 (by simp [hki]), fun z => ?_⟩
      rw [atKey_put_other hne, (h3 k hk).2]
      by_cases hs : k ∈ S
      · rw [if_pos hs, if_pos (by simp [hs])]
      · rw [if_neg hs, if_neg (by simp [hs, hki])]
end
section
variable {ops : Array Oper} {rest : List Oper} {o : Oper} {a : Act} {w : World} {Q : Exit → Act → World → Prop} {b : Nat} {S : List Int}
theorem wpList_seen_look (hw : Region.wanted o (yielded ops a.tmps) = true) (m x : Operand) (hop : o.op = Op.lookup 47 m x false) (hm : a.eval m = .map (some b)) (h : SeenM w b S) (i : Int) (hx : a.eval x = .int .i64 i) (hi : wf64 i) (hn : i ∉ S) (hK : wpList Try.prog ops Q rest (a.put o.dst (.bool false)) w) : wpList Try.prog ops Q (o :: rest) a w :=
  wpList_step fun K hK' => by
    rw [if_pos hw]
    have hrun := h.look hi hn
    unfold Oper.wp
    simp [execOp, hop, hm, hx, hrun, Result.andThen, Oper.upon]
    exact hK' _ _ hK
theorem wpList_seen_store (hg : o.guard = none) (m x v : Operand) (hop : o.op = Op.mapUpdate 47 m x v) (hm : a.eval m = .map (some b)) (h : SeenM w b S) (i : Int) (hx : a.eval x = .int .i64 i) (hv : a.eval v = .bool true) (hi : wf64 i) (hn : i ∉ S) (hl : S.length < maxLen)
    (hK : ∀ w', SeenM w' b (S ++ [i]) → w.mapTurned w' b → wpList Try.prog ops Q rest (a.put o.dst undef) w') : wpList Try.prog ops Q (o :: rest) a w := by
  refine wpList_plain hg fun K' hK' => ?_
  obtain ⟨w', hrun, r1, r2⟩ := h.store hi hn hl
  unfold Oper.wp
  simp [execOp, hop, hm, hx, hv, hrun, Result.andThen]
  exact hK' _ _ (hK w' r1 r2)
theorem wpList_seen_len (hg : o.guard = none) (m : Operand) (hop : o.op = Op.call { callee := Callee.builtin Builtin.len, args := #[m], argTypes := #[47] }) (hm : a.eval m = .map (some b)) (h : SeenM w b S) (hK : wpList Try.prog ops Q rest (a.put o.dst (.int .i64 (S.length : Int))) w) : wpList Try.prog ops Q (o :: rest) a w := by
  obtain ⟨D, h1, h2, _⟩ := h
  refine wpList_len_own w hg m 47 hop 3 4 Try.underlying47 holdV b S.length D hm h1 ?_
  rw [h2]
  exact hK
end
/-! Which timers are over when. -/
def setL (L : List Int) (j : Nat) : List (List Int) := (List.range j).map fun i => [L.getD i 0, (i : Int), 0]
theorem setL_next (L : List Int) (j : Nat) {x : Int} (h : L[j]? = some x) : setL L (j + 1) = setL L j ++ [[x, (j : Int), 0]] := by
  unfold setL
  rw [List.range_succ, List.map_append, List.map_singleton, List.getD_eq_getElem?_getD, h]
  rfl
theorem setL_len (L : List Int) (j : Nat) : (setL L j).length = j := by simp [setL]
theorem mem_setL {L : List Int} {j : Nat} {x : List Int} (h : x ∈ setL L j) : ∃ i, i < j ∧ x = [L.getD i 0, (i : Int), 0] := by
  unfold setL at h
  obtain ⟨i, hi, rfl⟩ := List.mem_map.1 h
  exact ⟨i, List.mem_range.1 hi, rfl⟩
theorem setL_ok (L : List Int) (j : Nat) {p : Int} (h0 : 0 ≤ p) (hp : p ≤ 1000000) : OkL p (setL L j) := ⟨hp, fun x hx => by
  obtain ⟨i, _, rfl⟩ := mem_setL hx
  simp
  exact h0⟩
/-- Those that still run p ticks on; those that are over by then; the ones that are over at the next tick. -/
def runP (l : List (List Int)) (p : Nat) : List (List Int) := l.filter fun x => decide ((p : Int) < dly (x.getD 0 0))
def pastP (l : List (List Int)) (p : Nat) : List (List Int) := l.filter fun x => decide (dly (x.getD 0 0) ≤ (p : Int))
def nextP (l : List (List Int)) (p : Nat) : List (List Int) := l.filter fun x => decide (dly (x.getD 0 0) = (p : Int) + 1)
def stepL (l : List (List Int)) : List Int := l.map fun x => x.getD 1 0
theorem runP_zero (l : List (List Int)) : runP l 0 = l := by
  unfold runP
  refine List.filter_eq_self.2 fun x _ => decide_eq_true ?_
  have := (dly_low (x.getD 0 0)).1
  omega
theorem over_run {L : List Int} {n p : Nat} : overL ((p : Int) + 1) (runP (setL L n) p) = nextP (setL L n) p := by
  unfold overL runP nextP
  rw [List.filter_filter]
  refine List.filter_congr fun x hx => ?_
  obtain ⟨i, _, rfl⟩ := mem_setL hx
  unfold dueL
  simp only [List.getD_cons_zero, List.getD_cons_succ, ← Bool.decide_and, decide_eq_decide]
  omega
theorem keep_run {L : List Int} {n p : Nat} : keepL ((p : Int) + 1) (runP (setL L n) p) = runP (setL L n) (p + 1) := by
  unfold keepL runP
  rw [List.filter_filter]
  refine List.filter_congr fun x hx => ?_
  obtain ⟨i, _, rfl⟩ := mem_setL hx
  unfold dueL
  simp only [List.getD_cons_zero, List.getD_cons_succ, ← decide_not, ← Bool.decide_and, decide_eq_decide]
  omega
theorem past_next_len (l : List (List Int)) (p : Nat) : (pastP l (p + 1)).length = (pastP l p).length + (nextP l p).length := by
  unfold pastP nextP
  induction l with
  | nil => rfl
  | cons x l ih =>
    have e : ((p + 1 : Nat) : Int) = (p : Int) + 1 := by omega
    rw [List.filter_cons, List.filter_cons, List.filter_cons]
    simp only [decide_eq_true_eq, e] at ih ⊢
    rcases Int.lt_trichotomy (dly (x.getD 0 0)) ((p : Int) + 1) with h | h | h
    · rw [if_pos (by omega), if_pos (by omega), if_neg (by omega), List.length_cons, List.length_cons, ih]
      omega
    · rw [if_pos (by omega), if_neg (by omega), if_pos h, List.length_cons, List.length_cons, ih]
      omega
    · rw [if_neg (by omega), if_neg (by omega), if_neg (by omega), ih]
theorem past_next_mem (l : List (List Int)) (p : Nat) (i : Int) : i ∈ stepL (pastP l (p + 1)) ↔ i ∈ stepL (pastP l p) ++ stepL (nextP l p) := by
  unfold stepL pastP nextP
  rw [List.mem_append, List.mem_map, List.mem_map, List.mem_map]
  have e : ((p + 1 : Nat) : Int) = (p : Int) + 1 := by omega
  constructor
  · rintro ⟨x, hx, rfl⟩
    rw [List.mem_filter] at hx
    have := of_decide_eq_true hx.2
    by_cases h : dly (x.getD 0 0) ≤ (p : Int)
    · exact .inl ⟨x, List.mem_filter.2 ⟨hx.1, decide_eq_true h⟩, rfl⟩
    · exact .inr ⟨x, List.mem_filter.2 ⟨hx.1, decide_eq_true (by omega)⟩, rfl⟩
  · rintro (⟨x, hx, rfl⟩ | ⟨x, hx, rfl⟩)
    · rw [List.mem_filter] at hx
      have := of_decide_eq_true hx.2
      exact ⟨x, List.mem_filter.2 ⟨hx.1, decide_eq_true (by omega)⟩, rfl⟩
    · rw [List.mem_filter] at hx
      have := of_decide_eq_true hx.2
      exact ⟨x, List.mem_filter.2 ⟨hx.1, decide_eq_true (by omega)⟩, rfl⟩
theorem setL_steps (L : List Int) (n : Nat) : (stepL (setL L n)).Nodup := by
  unfold stepL setL
  rw [List.map_map]
  refine List.pairwise_map.2 (List.Pairwise.imp (fun {a b} hab h => hab ?_) List.nodup_range)
  have : (a : Int) = (b : Int) := h
  omega
/-- The one that is over next wasn't seen. -/
theorem next_new {L : List Int} {n p q : Nat} {x : List Int} (hx : (nextP (setL L n) p)[q]? = some x) : x.getD 1 0 ∉ stepL (pastP (setL L n) p) ++ stepL ((nextP (setL L n) p).take q) := by
  have hmem := List.mem_of_getElem? hx
  have hxn := List.mem_filter.1 hmem
  rw [List.mem_append]
  rintro (h | h)
  · obtain ⟨y, hy, he⟩ := List.mem_map.1 h
    obtain ⟨hy1, hy2⟩ := List.mem_filter.1 hy
    obtain ⟨i, _, rfl⟩ := mem_setL hxn.1
    obtain ⟨k, _, rfl⟩ := mem_setL hy1
    simp only [List.getD_cons_zero, List.getD_cons_succ] at he hy2
    obtain rfl : k = i := by omega
    have h1 := of_decide_eq_true hxn.2
    have h2 := of_decide_eq_true hy2
    simp only [List.getD_cons_zero] at h1 h2
    omega
  · have hnd : (stepL (nextP (setL L n) p)).Nodup := List.Nodup.sublist (List.Sublist.map _ List.filter_sublist) (setL_steps L n)
    obtain ⟨y, hy, he⟩ := List.mem_map.1 h
    obtain ⟨k, hk⟩ := List.getElem?_of_mem hy
    have hkq : k < q := by
      have := (List.getElem?_eq_some_iff.1 hk).1
      rw [List.length_take] at this
      omega
    rw [List.getElem?_take_of_lt hkq] at hk
    have h1 : (stepL (nextP (setL L n) p))[k]? = some (y.getD 1 0) := by unfold stepL; rw [List.getElem?_map, hk]; rfl
    have h2 : (stepL (nextP (setL L n) p))[q]? = some (x.getD 1 0) := by unfold stepL; rw [List.getElem?_map, hx]; rfl
    rw [he, ← h2] at h1
    have := (List.getElem?_inj (by have := (List.getElem?_eq_some_iff.1 hk).1; unfold stepL; rw [List.length_map]; exact this) hnd).1 h1
    omega
theorem past_all {L : List Int} {n : Nat} (hL : L.length = n) (h : ∀ x ∈ L, x ≤ 20) : (stepL (pastP (setL L n) 50)).length = n ∧ runP (setL L n) 50 = [] := by
  have hd : ∀ x ∈ setL L n, dly (x.getD 0 0) ≤ ((50 : Nat) : Int) := fun x hx => by
    obtain ⟨i, hi, rfl⟩ := mem_setL hx
    have h1 : L.getD i 0 ≤ 20 := by
      rw [List.getD_eq_getElem?_getD, List.getElem?_eq_getElem (by omega)]
      exact h _ (List.getElem_mem _)
    simp only [List.getD_cons_zero]
    unfold dly
    omega
  constructor
  · unfold stepL pastP
    rw [List.length_map, List.filter_eq_self.2 (fun x hx => decide_eq_true (hd x hx)), setL_len]
  · unfold runP
    rw [List.filter_eq_nil_iff]
    intro x hx
    have := hd x hx
    simp only [decide_eq_true_eq]
    omega
end Go.Proofs.Ytgcpiaogodgphaa
