/-
  Audit: entries by their numbers. In whatever memory. No condition.
-/
import Derived.Test.YtalacjmcllfdhaaAudRef
import Derived.StringKeys
import Derived.Carry
namespace Go.Proofs.Ytalacjmcllfdhaa
open Go Go.RowKit Go.Shelf Go.Maps

/-! Texts' numbers as a map. -/
theorem str_law : Keyed Try.prog 9 := string_keyed Try.underlying9
theorem key_str {k : List UInt8} (h : k.length ≤ 1000) : keyOf Try.prog 9 (.string ⟨k.toArray⟩) = some (.string k) := by
  have := WideMaps.keyOf_string_mk (P := Try.prog) Try.underlying9 (s := ⟨k.toArray⟩) (by rw [ba_len]; unfold maxLen; omega)
  simpa using this
/-- Block b is a map from these texts to their numbers. -/
def NumM (W : World) (b : Nat) (S : List (List UInt8)) : Prop :=
  ∃ D, W.ownsMap Try.prog 9 holdV b S.length D ∧ size D = S.length ∧ ∀ k : List UInt8, has D (.string k) = decide (k ∈ S) ∧ ∀ z, D.atKey (.string k) z = if k ∈ S then .held (.int .i64 (idxL k S : Int)) else z
theorem numM_made (w : World) : NumM (w.alloc (.map #[] 0)) w.heap.size [] :=
  ⟨_, World.ownsMap_made w _ _ _, by simp [size], fun i => ⟨by simp [has], fun z => by simp [DataW.atKey]⟩⟩
theorem int_zeroA (w : World) : (zeroValue 3).run Try.prog w = .ok (.int .i64 0) w := by kernel_rfl
section
variable {W W' : World} {b : Nat} {S : List (List UInt8)}
theorem NumM.lt (h : NumM W b S) : b < W.heap.size := by
  obtain ⟨D, h, _⟩ := h
  exact h.lt
theorem NumM.same (h : NumM W b S) (hb : W'.heap[b]? = W.heap[b]?) : NumM W' b S := by
  obtain ⟨D, ⟨es, clock, h1, h2⟩, h3⟩ := h
  exact ⟨D, ⟨es, clock, hb.trans h1, h2⟩, h3⟩
theorem NumM.look (h : NumM W b S) {k : List UInt8} (hk : k.length ≤ 1000) : (Instr.lookup 67 (.map (some b)) (.string ⟨k.toArray⟩) true).run Try.prog W = .ok (.tuple #[.int .i64 (if k ∈ S then (idxL k S : Int) else 0), .bool (decide (k ∈ S))]) W := by
  obtain ⟨D, h1, h2, h3⟩ := h
  obtain ⟨v, ps, hrun, hv⟩ := h1.look_ok str_law Try.underlying67 (int_zeroA W) (zd := .held (.int .i64 0)) (zp := []) rfl (key_str hk)
  rw [(h3 k).2, holdV] at hv
  rw [hrun, (h3 k).1]
  by_cases hs : k ∈ S
  · rw [if_pos hs] at hv ⊢
    simp only [Option.some.injEq, Prod.mk.injEq, DataW.held.injEq] at hv
    rw [hv.1]
  · rw [if_neg hs] at hv ⊢
    simp only [Option.some.injEq, Prod.mk.injEq, DataW.held.injEq] at hv
    rw [hv.1]
theorem NumM.store (h : NumM W b S) {k : List UInt8} (hk : k.length ≤ 1000) (hn : k ∉ S) (hl : S.length < maxLen) : ∃ w', (Instr.mapUpdate 67 (.map (some b)) (.string ⟨k.toArray⟩) (.int .i64 (S.length : Int))).run Try.prog W = .ok () w' ∧ NumM w' b (S ++ [k]) ∧ W.mapTurned w' b := by
  obtain ⟨D, h1, h2, h3⟩ := h
  obtain ⟨w', hrun, q2, q3⟩ := h1.store str_law Try.underlying67 hl (d := .held (.int .i64 (S.length : Int))) (ps := []) (key_str hk) rfl
  have hlen : (S ++ [k]).length = S.length + 1 := by simp
  refine ⟨w', hrun, ⟨_, by rw [hlen]; exact q2, ?_, fun j => ?_⟩, q3⟩
  · rw [size_put (h1.tidy str_law), (h3 k).1, decide_eq_false hn, hlen, h2]
    simp
  · by_cases hjk : j = k
    · subst hjk
      rw [has_put_same h1.isMap (str_law.key (key_str hk)) _]
      exact ⟨by simp, fun z => by rw [atKey_put_same h1.isMap (str_law.key (key_str hk)) _ _, if_pos (by simp), idxL_out hn]⟩
    · have hne : (Lit.string j) ≠ (Lit.string k) := fun e => hjk (by injection e)
      rw [has_put_other hne, (h3 j).1]
      refine ⟨decide_eq_decide.2 (by simp [hjk]), fun z => ?_⟩
      rw [atKey_put_other hne, (h3 j).2]
      by_cases hs : j ∈ S
      · rw [if_pos hs, if_pos (by simp [hs]), idxL_in _ hs]
      · rw [if_neg hs, if_neg (by simp [hs, hjk])]
end
section
variable {ops : Array Oper} {rest : List Oper} {o : Oper} {a : Act} {w : World} {Q : Exit → Act → World → Prop} {b : Nat} {S : List (List UInt8)}
theorem wpList_num_look (hg : o.guard = none) (m x : Operand) (hop : o.op = Op.lookup 67 m x true) (hm : a.eval m = .map (some b)) (h : NumM w b S) (k : List UInt8) (hx : a.eval x = .string ⟨k.toArray⟩) (hk : k.length ≤ 1000) (hK : wpList Try.prog ops Q rest (a.put o.dst (.tuple #[.int .i64 (if k ∈ S then (idxL k S : Int) else 0), .bool (decide (k ∈ S))])) w) : wpList Try.prog ops Q (o :: rest) a w := by
  refine wpList_plain hg fun K hK' => ?_
  have hrun := h.look hk
  unfold Oper.wp
  simp [execOp, hop, hm, hx, hrun, Result.andThen]
  exact hK' _ _ hK
theorem wpList_num_store (hg : o.guard = none) (m x v : Operand) (hop : o.op = Op.mapUpdate 67 m x v) (hm : a.eval m = .map (some b)) (h : NumM w b S) (k : List UInt8) (hx : a.eval x = .string ⟨k.toArray⟩) (hv : a.eval v = .int .i64 (S.length : Int)) (hk : k.length ≤ 1000) (hn : k ∉ S) (hl : S.length < maxLen)
    (hK : ∀ w', NumM w' b (S ++ [k]) → w.mapTurned w' b → wpList Try.prog ops Q rest (a.put o.dst undef) w') : wpList Try.prog ops Q (o :: rest) a w := by
  refine wpList_plain hg fun K' hK' => ?_
  obtain ⟨w', hrun, r1, r2⟩ := h.store hk hn hl
  unfold Oper.wp
  simp [execOp, hop, hm, hx, hv, hrun, Result.andThen]
  exact hK' _ _ (hK w' r1 r2)
theorem wpList_num_len (hg : o.guard = none) (m : Operand) (hop : o.op = Op.call { callee := Callee.builtin Builtin.len, args := #[m], argTypes := #[67] }) (hm : a.eval m = .map (some b)) (h : NumM w b S) (hK : wpList Try.prog ops Q rest (a.put o.dst (.int .i64 (S.length : Int))) w) : wpList Try.prog ops Q (o :: rest) a w := by
  obtain ⟨D, h1, h2, _⟩ := h
  refine wpList_len_own w hg m 67 hop 9 3 Try.underlying67 holdV b S.length D hm h1 ?_
  rw [h2]
  exact hK
end
theorem below_turnA {B : Nat} {S : Nat → Prop} {w0 W W' : World} (hb : Below B w0 W) (hB : B ≤ w0.heap.size) (ht : Turn S W W') (hs : ∀ i, S i → B ≤ i) : Below B w0 W' :=
  hb.trans (ht.below (Nat.le_trans hB hb.size) (fun i hi h => by have := hs i h; omega))
theorem turn_map {w w' : World} {b : Nat} (h : w.mapTurned w' b) : Turn (fun i => i = b) w w' :=
  ⟨(turned_rest h).1, (turned_rest h).2.1, (turned_rest h).2.2, by rw [turned_size h]; exact Nat.le_refl _, fun i _ hn => turned_other h hn⟩
/-! Rows of numbers. -/
def numC (l : List Nat) : List (List Value) := l.map fun (x : Nat) => [.int .i64 (x : Int)]
theorem numC_els (l : List Nat) : ElsC 1 (numC l) := fun x hx => by
  obtain ⟨p, _, rfl⟩ := List.mem_map.1 hx
  exact ⟨rfl, fun u hu => by
    rw [List.mem_singleton] at hu
    subst hu
    rfl⟩
theorem numC_append (a b : List Nat) : numC (a ++ b) = numC a ++ numC b := by unfold numC; exact List.map_append
theorem numC_length (l : List Nat) : (numC l).length = l.length := by unfold numC; exact List.length_map _
theorem elI : ElC Try.prog 3 50 1 8 := ⟨Try.underlying50, by kernel_rfl, by omega, by omega⟩
/-- A row of numbers. -/
def RdZ (W : World) (ok : Nat → Prop) (v : Value) (l : List Nat) : Prop := RdC 1 W ok v (numC l)
theorem RdZ.at {W : World} {ok : Nat → Prop} {v : Value} {l : List Nat} (h : RdZ W ok v l) : ∃ A c, v = .slice A l.length c ∧ ∀ (k x : Nat), l[k]? = some x → ∃ ad : Addr, A = some ad ∧ ok ad.block ∧ W.cell? (ad.add k) = some (.int .i64 (x : Int)) := by
  obtain ⟨h0, A, c, h1, h2, h3, h4⟩ := h
  rw [numC_length] at h1 h4
  refine ⟨A, c, h1, fun k x hk => ?_⟩
  obtain ⟨ad, q1, q2, q3⟩ := h4 (by have := (List.getElem?_eq_some_iff.1 hk).1; omega)
  have := q3 k [.int .i64 (x : Int)] (by unfold numC; rw [List.getElem?_map, hk]; rfl) 0 (by omega)
  rw [Nat.one_mul, Nat.add_zero] at this
  exact ⟨ad, q1, q2, this⟩
def updF (f : Nat → Value) (i : Nat) (v : Value) : Nat → Value := fun j => if j = i then v else f j
theorem run_mk_rows (n : Nat) (hn : n ≤ 1000) (w : World) : (Instr.makeSlice 44 (.int .i64 (n : Int)) (.int .i64 (n : Int))).run Try.prog w = .ok (.slice (some ⟨w.heap.size, 0, none⟩) n n) (w.alloc (.cells (arr n fun _ => .slice none 0 0) 50)) := by
  have hinfo : (Try.prog.info? 50).map (fun i => (i.zero, i.size, i.bytes)) = some (some (.slice none 0 0), 1, 24) := by kernel_rfl
  obtain ⟨i0, hi, hz0, hz1, hz2⟩ := info_parts hinfo
  have h := run_make (P := Try.prog) w 44 50 i0 (.slice none 0 0) Try.underlying44 hi hz0 .i64 .i64 n n (by omega) (Int.le_refl _) (by rw [hz2]; omega) (by omega)
  simp only [Int.toNat_natCast] at h
  rw [h]
  have e : madeCells (Value.slice none 0 0).cells (n * i0.size) = arr n fun _ => .slice none 0 0 := by
    rw [hz1, Nat.mul_one]
    refine arr_of n _ _ (by simp [size_madeCells]) (fun i hi => ?_)
    have := congrArg (fun l : List Value => l[i]?) (toList_madeCells_one (Value.slice none 0 0) n)
    simp only [Array.getElem?_toList] at this
    show (madeCells #[Value.slice none 0 0] n)[i]? = _
    rw [this]
    simp [hi]
  rw [e]
/-- Within a list: its first k entries have their numbers. -/
structure NumI (w : World) (B : Nat) (L : List (List (List UInt8))) (n : Nat) (S : List (List UInt8)) (i k z : Nat) (f : Nat → Value) (W : World) : Prop where
  m : NumM W w.heap.size S
  g : Blk W (w.heap.size + 1) 50 (arr n f)
  done : ∀ j, j < i → RdZ W (fun b => w.heap.size + 1 < b ∧ b < B) (f j) ((L.getD j []).map fun x => idxL x S)
  cur : W.ownsRow B 3 1 (f i) k (numC (((L.getD i []).take k).map fun x => idxL x S)).flatten
  later : ∀ j, i < j → f j = .slice none 0 0
  mem : ∀ j, j < i → ∀ x ∈ L.getD j [], x ∈ S
  memc : ∀ x ∈ (L.getD i []).take k, x ∈ S
  size : S.length ≤ z
  base : w.heap.size + 2 ≤ B ∧ B ≤ W.heap.size
  old : Below w.heap.size w W
section
variable {w W W' : World} {B n i k z : Nat} {L : List (List (List UInt8))} {S : List (List UInt8)} {f : Nat → Value}
theorem NumI.below (h : NumI w B L n S i k z f W) (hb : Below W.heap.size W W') : NumI w B L n S i k z f W' :=
  ⟨h.m.same (hb.block _ h.m.lt), h.g.below hb h.g.lt, fun j hj => (h.done j hj).kept fun a _x ha hx => (hb.cell (p := a) (Nat.lt_of_lt_of_le ha.2 h.base.2)).trans hx, ownsRow_kept h.cur hb, h.later, h.mem, h.memc, h.size, ⟨h.base.1, Nat.le_trans h.base.2 hb.size⟩, h.old.trans (hb.mono h.old.size)⟩
theorem map_add {l : List (List UInt8)} {x : List UInt8} (h : ∀ y ∈ l, y ∈ S) : (l.map fun y => idxL y (S ++ [x])) = l.map fun y => idxL y S := List.map_congr_left fun y hy => idxL_in _ (h y hy)
/-- A key more. -/
theorem NumI.put {x : List UInt8} (h : NumI w B L n S i k z f W) (hm : NumM W' w.heap.size (S ++ [x])) (ht : W.mapTurned W' w.heap.size) : NumI w B L n (S ++ [x]) i k (z + 1) f W' := by
  have tn := turn_map ht
  have hb := h.base
  refine ⟨hm, tn.blk h.g (by omega), fun j hj => ?_, ?_, h.later, fun j hj y hy => List.mem_append_left _ (h.mem j hj y hy), fun y hy => List.mem_append_left _ (h.memc y hy), by have := h.size; rw [List.length_append, List.length_singleton]; omega, ⟨hb.1, Nat.le_trans hb.2 tn.size⟩, below_turnA h.old (Nat.le_refl _) tn fun q hq => by omega⟩
  · rw [map_add (h.mem j hj)]
    exact (h.done j hj).kept fun a u ha hu => tn.cell hu (by have := ha.1; omega)
  · rw [map_add h.memc]
    exact tn.own h.cur fun q hq e => by
      have := (h.cur.lt q hq).1
      omega
theorem NumI.more (h : NumI w B L n S i k z f W) {z' : Nat} (hz : z ≤ z') : NumI w B L n S i k z' f W := ⟨h.m, h.g, h.done, h.cur, h.later, h.mem, h.memc, Nat.le_trans h.size hz, h.base, h.old⟩
/-- A number more. -/
theorem NumI.add {x : List UInt8} (h : NumI w B L n S i k z f W) (hin : i < n) (hx : (L.getD i [])[k]? = some x) (hS : x ∈ S) (hk : k ≤ 1000) :
    ∃ Av cv w', (Builtin.append_ #[50, 50] 50 #[f i, .slice (some ⟨W.heap.size, 0, none⟩) 1 1]).run Try.prog (W.alloc (.cells #[.int .i64 (idxL x S : Int)] 3)) = .ok (.slice Av (k + 1) cv) w' ∧
      w'.cell? ⟨w.heap.size + 1, i, none⟩ = some (f i) ∧ w'.frozen? ⟨w.heap.size + 1, i, none⟩ = false ∧ NumI w B L n S i (k + 1) z (updF f i (.slice Av (k + 1) cv)) (w'.setCell ⟨w.heap.size + 1, i, none⟩ (.slice Av (k + 1) cv)) := by
  obtain ⟨W1, hW1⟩ : ∃ z, W.alloc (.cells #[.int .i64 (idxL x S : Int)] 3) = z := ⟨_, rfl⟩
  have hb : Below W.heap.size W W1 := by rw [← hW1]; exact (Below.refl _ _).alloc (Nat.le_refl _) _
  have hr : RdC 1 W1 (fun b => b = W.heap.size) (.slice (some ⟨W.heap.size, 0, none⟩) 1 1) [[.int .i64 (idxL x S : Int)]] := by
    rw [← hW1]
    exact rdC_one (Blk.new W 3 #[.int .i64 (idxL x S : Int)]) (numC_els [idxL x S])
  rw [hW1]
  have h1 := h.below hb
  have hB1 := h1.base
  obtain ⟨v', w', hrun, q1, q2, q3⟩ := app_own elI hB1.2 h1.cur hr (by omega)
  obtain ⟨Av, cv, hv, _⟩ := own_len q1
  rw [hv] at hrun q1 q3
  clear hv
  have hlo := fun g hg => (h1.cur.lt g hg).1
  have tn : Turn (fun b => (f i).ownBlock = some b) W1 w' := (Turn.refl _ _).grown q2 fun b hb _ => hb
  have kg := tn.blk h1.g fun e => by have := hlo _ e; omega
  have ts : Turn (fun b => b = w.heap.size + 1) w' (w'.setCell ⟨w.heap.size + 1, i, none⟩ (.slice Av (k + 1) cv)) := Turn.setCell (S := fun b => b = w.heap.size + 1) (Turn.refl _ _) (p := ⟨w.heap.size + 1, i, none⟩) (fun _ => rfl) _
  have hv' : ∀ g, (Value.slice Av (k + 1) cv).ownBlock = some g → B ≤ g := fun g hg => by
    rcases q3 with e | e
    · exact hlo g (by rw [← e]; exact hg)
    · rw [e] at hg
      injection hg with hg
      omega
  have htk : (L.getD i []).take (k + 1) = (L.getD i []).take k ++ [x] := by
    have hl := (List.getElem?_eq_some_iff.1 hx).1
    rw [List.take_succ_eq_append_getElem hl, (List.getElem?_eq_some_iff.1 hx).2]
  refine ⟨Av, cv, w', hrun, by rw [kg.cell, arr_get, if_pos hin], kg.frozen i, ⟨?_, ?_, fun j hj => ?_, ?_, fun j hj => ?_, h.mem, ?_, h.size, ⟨h.base.1, Nat.le_trans hB1.2 (Nat.le_trans tn.size ts.size)⟩, ?_⟩⟩
  · refine (h1.m.same (tn.block _ h1.m.lt fun e => by have := hlo _ e; omega)).same (ts.block _ (Nat.lt_of_lt_of_le h1.m.lt tn.size) (by omega))
  · refine (kg.store i _).same ?_
    rw [arr_set _ _ _ _ hin]
    rfl
  · unfold updF
    rw [if_neg (by omega)]
    exact (h1.done j hj).kept fun a u ha hu => ts.cell (tn.cell hu fun e => by have := hlo _ e; have := ha.2; omega) (by have := ha.1; omega)
  · unfold updF
    rw [if_pos rfl, htk, List.map_append, numC_append, List.flatten_append]
    rw [List.flatten_append] at q1
    exact ts.own q1 fun g hg e => by have := hv' g hg; omega
  · unfold updF
    rw [if_neg (by omega)]
    exact h.later j hj
  · intro y hy
    rw [htk] at hy
    rcases List.mem_append.1 hy with hy | hy
    · exact h.memc y hy
    · rw [List.mem_singleton.1 hy]
      exact hS
  · exact below_turnA (below_turnA h1.old (Nat.le_refl _) tn fun g hg => by have := hlo g hg; omega) (Nat.le_refl _) ts fun g hg => by omega
/-- A list is done. -/
theorem NumI.next (h : NumI w B L n S i k z f W) (hk : (L.getD i []).length = k) (hm : k ≤ 1000) : NumI w W.heap.size L n S (i + 1) 0 z f W := by
  have htk : (L.getD i []).take k = L.getD i [] := by rw [← hk, List.take_length]
  have hb := h.base
  refine ⟨h.m, h.g, fun j hj => ?_, ?_, fun j hj => h.later j (by omega), fun j hj => ?_, by simp, h.size, ⟨by omega, Nat.le_refl _⟩, h.old⟩
  · by_cases e : j = i
    · subst e
      have := rdC_own h.cur (numC_els _) (by rw [numC_length, List.length_map, htk, hk]) (by omega)
      rw [htk] at this
      exact this.mono fun b q => ⟨by omega, q.2.1⟩
    · exact (h.done j (by omega)).mono fun b q => ⟨q.1, by omega⟩
  · rw [h.later (i + 1) (by omega)]
    exact ⟨rfl, .inl ⟨rfl, rfl⟩⟩
  · by_cases e : j = i
    · subst e
      rw [← htk]
      exact h.memc
    · exact h.mem j (by omega)
end
/-- Rows of numbers in block g, all of it from block B on. -/
def EntAt (W : World) (B g : Nat) (E : List (List Nat)) : Prop := B ≤ g ∧ ∃ f, Blk W g 50 (arr E.length f) ∧ ∀ j, j < E.length → RdZ W (fun b => B ≤ b) (f j) (E.getD j [])
theorem NumI.ends {w W : World} {B n z : Nat} {L : List (List (List UInt8))} {S : List (List UInt8)} {f : Nat → Value} (h : NumI w B L n S n 0 z f W) (hn : L.length = n) : ∃ E, EntAt W w.heap.size (w.heap.size + 1) E ∧ E.length = n ∧ Numbers S L E := by
  have hE : (L.map fun l => l.map fun x => idxL x S).length = n := by rw [List.length_map, hn]
  refine ⟨L.map fun l => l.map fun x => idxL x S, ⟨by omega, f, by rw [hE]; exact h.g, fun j hj => ?_⟩, hE, ⟨fun l hl => ?_, rfl⟩⟩
  · rw [hE] at hj
    have e : (L.map fun l => l.map fun x => idxL x S).getD j [] = (L.getD j []).map fun x => idxL x S := by
      rw [List.getD_eq_getElem?_getD, List.getElem?_map, List.getD_eq_getElem?_getD, List.getElem?_eq_getElem (by omega)]
      rfl
    rw [e]
    exact (h.done j hj).mono fun b q => by omega
  · obtain ⟨j, hj, rfl⟩ := List.mem_iff_getElem.1 hl
    have := h.mem j (by omega)
    rw [List.getD_eq_getElem?_getD, List.getElem?_eq_getElem hj] at this
    exact this
set_option maxRecDepth 100000 in
set_option maxHeartbeats 8000000 in
theorem numbered_any (A : Option Addr) (c : Nat) (L : List (List (List UInt8))) (w : World) (hr : RdPP w (fun b => b < w.heap.size) A L) (hf : FewL L) :
    Calls Try.prog 14 #[.slice A L.length c] w fun e w' => ∃ S E, e = .returned (.slice (some ⟨w.heap.size + 1, 0, none⟩) L.length L.length) ∧ EntAt w' w.heap.size (w.heap.size + 1) E ∧ E.length = L.length ∧ Numbers S L E ∧ Below w.heap.size w w' := by
  have HR := Lib.hid hr
  have HF := Lib.hid hf
  obtain ⟨n, hn⟩ : ∃ n, L.length = n := ⟨_, rfl⟩
  have hn8 : n ≤ 8 := by rw [← hn]; exact hf.1
  have HN := Lib.hid hn
  rw [hn]
  clear hr hf hn
  have hmk := fun W => run_mk_rows n (by omega) W
  have hmm := @run_makeMap Try.prog
  obtain ⟨W0, hW0⟩ : ∃ z, (w.alloc (.map #[] 0)).alloc (.cells (arr n fun _ => .slice none 0 0) 50) = z := ⟨_, rfl⟩
  have HST : Hid (NumI w W0.heap.size L n [] 0 0 0 (fun _ => .slice none 0 0) W0) := Lib.hid (by
    have hs : W0.heap.size = w.heap.size + 2 := by rw [← hW0]; simp
    refine ⟨?_, ?_, fun j hj => by omega, ⟨rfl, .inl ⟨rfl, rfl⟩⟩, fun _ _ => rfl, fun j hj => by omega, by simp, by simp, ⟨by omega, Nat.le_refl _⟩, ?_⟩
    · rw [← hW0]
      exact (numM_made w).same (((Below.refl _ _).alloc (Nat.le_refl _) _).block _ (by simp))
    · rw [← hW0]
      exact Blk.newAt _ _ (by simp) rfl
    · rw [← hW0]
      exact ((Below.refl _ _).alloc (Nat.le_refl _) _).alloc (by simp) _)
  have HW0 := Lib.hid hW0
  clear hW0
  go_enter Try.func14, Try.ntmps14
  go_upto_region 3 with fail
  rw [HW0.out]
  clear hmk hmm
  go_wp2_with fail
  go_loopw [17] (fun i wr => ∃ (a : Nat) (S : List (List UInt8)) (f : Nat → Value), a ≤ n ∧ i = .int .i64 (a : Int) ∧ NumI w wr.heap.size L n S a 0 (12 * a) f wr) (fun i _ => n - (intOf i).toNat)
  case atStart => exact ⟨0, _, _, Nat.zero_le _, rfl, HST.out⟩
  case round =>
    clear HST
    obtain ⟨a, S0, f0, ha, rfl, hI0⟩ := hrel
    obtain ⟨wa, hwa⟩ : ∃ z, z = wr := ⟨_, rfl⟩
    subst hwa
    by_cases han : a < n
    · have hai : (a : Int) < (n : Int) := by omega
      obtain ⟨ad, A', c', rfl, hadl, hcell, hlb, hrd⟩ := HR.out a (by rw [HN.out]; exact han)
      have hokl := HF.out.2 _ (getD_mem [] (show a < L.length by rw [HN.out]; exact han))
      obtain ⟨l, hl⟩ : ∃ z, L.getD a [] = z := ⟨_, rfl⟩
      rw [hl] at hcell hlb hrd hokl
      obtain ⟨m, hm⟩ : ∃ z, l.length = z := ⟨_, rfl⟩
      rw [hm] at hcell hlb
      have hm12 : m ≤ 12 := by rw [← hm]; exact hokl.1
      have hcw := (hI0.old.cell (p := ad.add a) (by rw [block_add]; exact hadl)).trans hcell
      have HL := Lib.hid hl
      have HM := Lib.hid hm
      have HRD := Lib.hid hrd
      have HOK := Lib.hid hokl
      have HI0 := Lib.hid hI0
      have HB := Lib.hid (show w.heap.size ≤ wa.heap.size from hI0.old.size)
      obtain ⟨B, hB⟩ : ∃ z, wa.heap.size = z := ⟨_, rfl⟩
      have HI1 : Hid (NumI w B L n S0 a 0 (12 * a) f0 wa) := Lib.hid (by rw [← hB]; exact HI0.out)
      clear hcell hrd hokl hl hm hI0 hadl HI0 hB
      go_wp2_with fail
      go_loopw [24] (fun i wr => ∃ (k : Nat) (S : List (List UInt8)) (f : Nat → Value), k ≤ m ∧ i = .int .i64 (k : Int) ∧ NumI w B L n S a k (12 * a + k) f wr) (fun i _ => m - (intOf i).toNat)
      case atStart => exact ⟨0, _, _, Nat.zero_le _, rfl, HI1.out⟩
      case round =>
        clear HI1 hcw
        obtain ⟨k, S, f, hk, rfl, hI⟩ := hrel
        obtain ⟨wk, hwk⟩ : ∃ z, z = wr := ⟨_, rfl⟩
        subst hwk
        by_cases hkm : k < m
        · have hki : (k : Int) < (m : Int) := by omega
          obtain ⟨ad2, Ax, cx, rfl, hxl, hcx, hrx, hxn⟩ := HRD.out.at (k := k) (by rw [HM.out]; exact hkm)
          have hga := getD_at (l := l) [] (show k < l.length by rw [HM.out]; exact hkm)
          have hgm := getD_mem (l := l) [] (show k < l.length by rw [HM.out]; exact hkm)
          obtain ⟨x, hx⟩ : ∃ z, l.getD k [] = z := ⟨_, rfl⟩
          rw [hx] at hcx hrx hga hgm
          have hx1000 : x.length ≤ 1000 := HOK.out.2 x hgm
          have HX1000 := Lib.hid hx1000
          have HGA := Lib.hid (show (L.getD a [])[k]? = some x by rw [HL.out]; exact hga)
          have hcxw := (hI.old.cell (p := ad2.add k) (by rw [block_add]; exact hxl)).trans hcx
          have hcv := str_rd (hrx.kept (W' := wk) fun p u hp h => (hI.old.cell (p := p) hp).trans h)
          obtain ⟨xn, hxn2⟩ : ∃ z, x.length = z := ⟨_, rfl⟩
          rw [hxn2] at hcxw hcv
          have HI := Lib.hid hI
          have hsz := hI.size
          have HSZ : Hid (S.length < maxLen) := Lib.hid (by unfold maxLen; omega)
          have HK := Lib.hid (show k ≤ 1000 by omega)
          clear hcx hrx hga hgm hx hxl hxn hxn2 hx1000 hI hsz
          by_cases hS : x ∈ S
          · have HS := Lib.hid hS
            obtain ⟨q, hq⟩ : ∃ z, idxL x S = z := ⟨_, rfl⟩
            obtain ⟨Av, cv, w', hrun, hcw, hfw, hIn⟩ := HI.out.add han HGA.out hS HK.out
            rw [hq] at hrun
            have HRUN := Lib.hid hrun
            have HIN := Lib.hid (hIn.more (show 12 * a + k ≤ 12 * a + (k + 1) by omega))
            have hcg : wk.cell? ⟨w.heap.size + 1, a, none⟩ = some (f a) := by rw [HI.out.g.cell, arr_get, if_pos han]
            have HQ := Lib.hid hq
            clear hrun hIn hS hq
            go_wp2_with (first
              | (guard_target = wpList _ _ _ (Oper.mk _ (.lookup _ _ _ _) _ _ _ _ :: _) _ _; refine wpList_num_look rfl _ _ rfl rfl HI.out.m x rfl HX1000.out ?_; rw [if_pos HS.out, decide_eq_true HS.out, HQ.out])
              | (at_builtin; refine wpList_append_run rfl (.tmp 48) (.tmp 50) _ _ rfl _ _ rfl rfl _ _ HRUN.out ?_))
            go_roundw
            · exact ⟨k + 1, S, _, by omega, by go_num, HIN.out⟩
            · simp [intOf]
              omega
          · have HS := Lib.hid hS
            clear hS
            go_upto_region 13 with (first
              | (guard_target = wpList _ _ _ (Oper.mk _ (.lookup _ _ _ _) _ _ _ _ :: _) _ _; refine wpList_num_look rfl _ _ rfl rfl HI.out.m x rfl HX1000.out ?_; rw [if_neg HS.out, decide_eq_false HS.out])
              | (guard_target = wpList _ _ _ (Oper.mk _ (.mapUpdate _ _ _ _) _ _ _ _ :: _) _ _; refine wpList_num_store rfl _ _ _ rfl rfl HI.out.m x rfl rfl HX1000.out HS.out HSZ.out ?_; intro w5 hm5 ht5; have HI5 := Lib.hid (HI.out.put hm5 ht5); clear hm5 ht5)
              | (guard_target = wpList _ _ _ (Oper.mk _ (.call _) _ _ _ _ :: _) _ _; refine wpList_num_len rfl (.tmp 37) rfl rfl HI.out.m ?_))
            have hidx : idxL x (S ++ [x]) = S.length := idxL_out HS.out
            obtain ⟨Av, cv, w', hrun, hcw, hfw, hIn⟩ := HI5.out.add han HGA.out (by simp) HK.out
            rw [hidx] at hrun
            have HRUN := Lib.hid hrun
            have HIN := Lib.hid (hIn.more (show 12 * a + k + 1 ≤ 12 * a + (k + 1) by omega))
            have hcg : w5.cell? ⟨w.heap.size + 1, a, none⟩ = some (f a) := by rw [HI5.out.g.cell, arr_get, if_pos han]
            clear hrun hIn hidx hcxw hcv
            go_wp2_with (at_builtin; refine wpList_append_run rfl (.tmp 48) (.tmp 50) _ _ rfl _ _ rfl rfl _ _ HRUN.out ?_)
            go_roundw
            · exact ⟨k + 1, _, _, by omega, by go_num, HIN.out⟩
            · simp [intOf]
              omega
        · obtain rfl : k = m := by omega
          have HNX := Lib.hid ((hI.next (by rw [HL.out]; exact HM.out) (by omega)).more (show 12 * a + k ≤ 12 * (a + 1) by omega))
          clear hI
          go_wp2
          go_roundw
          · exact ⟨a + 1, S, f, by omega, by go_num, HNX.out⟩
          · simp [intOf]
            omega
    · obtain rfl : a = n := by omega
      obtain ⟨E, he1, he2, he3⟩ := hI0.ends HN.out
      have HE := Lib.hid (And.intro he1 (And.intro he2 (And.intro he3 hI0.old)))
      clear hI0 he1 he2 he3
      go_wp2
      go_ret
      exact ⟨S0, E, rfl, HE.out.1, HE.out.2.1, HE.out.2.2.1, HE.out.2.2.2⟩
end Go.Proofs.Ytalacjmcllfdhaa
