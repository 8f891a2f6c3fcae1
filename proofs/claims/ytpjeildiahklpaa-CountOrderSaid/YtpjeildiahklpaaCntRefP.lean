/-
  The reference's count: Put; rows of votes that grow. No condition.
-/
import Derived.Test.YtpjeildiahklpaaCntEqv
import Derived.Maps.AppendAt
import Derived.Great.Walk
import Derived.OwnWalk
namespace Go.Proofs.Ytpjeildiahklpaa
open Go Go.RowKit Go.Maps

def votesC (l : List VoteT) : List Value := l.flatMap voteC
theorem votesC_append (a b : List VoteT) : votesC (a ++ b) = votesC a ++ votesC b := by simp [votesC]
theorem votesC_length {l : List VoteT} (h : ∀ x ∈ l, VoteOk x) : (votesC l).length = l.length * 35 := by
  induction l with
  | nil => rfl
  | cons v l ih =>
    rw [votesC, List.flatMap_cons, List.length_append, voteC_length (h v (List.mem_cons_self ..)), ← votesC, ih fun x hx => h x (List.mem_cons_of_mem _ hx), List.length_cons]
    omega
theorem votesC_get {l : List VoteT} (h : ∀ x ∈ l, VoteOk x) {k : Nat} {x : VoteT} (hk : l[k]? = some x) {i : Nat} (hi : i < 35) : (votesC l)[35 * k + i]? = (voteC x)[i]? := by
  induction l generalizing k with
  | nil => simp at hk
  | cons v l ih =>
    have hv := voteC_length (h v (List.mem_cons_self ..))
    rw [votesC, List.flatMap_cons, ← votesC]
    cases k with
    | zero =>
      rw [List.getElem?_cons_zero, Option.some.injEq] at hk
      subst hk
      rw [Nat.mul_zero, Nat.zero_add, List.getElem?_append_left (by omega)]
    | succ k =>
      rw [List.getElem?_cons_succ] at hk
      rw [List.getElem?_append_right (by omega), hv, show 35 * (k + 1) + i - 35 = 35 * k + i from by omega]
      exact ih (fun x hx => h x (List.mem_cons_of_mem _ hx)) hk
theorem votesC_one (l : List VoteT) : ∀ u ∈ votesC l, u.oneCell' = true := fun u hu => by
  unfold votesC at hu
  rw [List.mem_flatMap] at hu
  obtain ⟨v, _, hu⟩ := hu
  have h := voteA_one v
  rw [Array.all_eq_true_iff_forall_mem] at h
  exact h u (by unfold voteA; simpa using hu)
theorem info_vote : (Try.prog.info? 26).map (fun i => (i.zero, i.size, i.bytes)) = some (some (.agg (voteA ⟨0, 0, 0, zeroId⟩)), 35, 56) := by kernel_rfl
theorem zeroVote_ok : VoteOk ⟨0, 0, 0, zeroId⟩ := ⟨zeroId_ok, wfi_small (by decide) (by decide), wfi_small (by decide) (by decide), wfi_small (by decide) (by decide)⟩
set_option maxRecDepth 100000 in
/-- An append of a slice of votes onto a row of the call's own. -/
theorem app_votes {B B' : Nat} {w : World} (hB : B ≤ w.heap.size) {v : Value} {n : Nat} {xs : List Value} (hown : w.ownsRow B 26 35 v n xs) {A : Option Addr} {m c : Nat} {l : List VoteT} (hr : RdW w B' (.slice A m c) l) (hn : n + m ≤ 2513169434916) :
    ∃ v' w', (Builtin.append_ #[22, 22] 22 #[v, .slice A m c]).run Try.prog w = .ok v' w' ∧
      w'.ownsRow B 26 35 v' (n + m) (xs ++ votesC l) ∧ w.grownBy w' v.ownBlock ∧ (v'.ownBlock = v.ownBlock ∨ v'.ownBlock = some w.heap.size) := by
  obtain ⟨i, hi, hz, hsize, hby⟩ := info_parts info_vote
  have ht := Try.underlying22
  obtain ⟨hok, A', c', hv, h1, h2, h3⟩ := hr
  obtain ⟨rfl, rfl, rfl⟩ := Value.slice.inj hv
  rcases A with _ | ad
  · have hm : l.length = 0 := by
      rcases Nat.eq_zero_or_pos l.length with h0 | h0
      · exact h0
      · obtain ⟨ad, h, _⟩ := h3 h0
        cases h
    have hn : l = [] := List.eq_nil_of_length_eq_zero hm
    subst hn
    refine ⟨v, w, ?_, by simpa [votesC] using hown, World.grownBy.refl w _, .inl rfl⟩
    rcases hown.2 with ⟨rfl, rfl⟩ | ⟨g, cap, cur, rfl, _, _, hnc, _⟩
    · simp [Builtin.append_, run_underlying ht, sizeOf, typeInfo, hi, Builtin.lenOf, Builtin.firstCells]
    · simp [Builtin.append_, run_underlying ht, sizeOf, typeInfo, hi, Builtin.lenOf, Builtin.firstCells, hnc, storeCells]
  · obtain ⟨v', w', hrun, q2, q3, _, q5⟩ := run_append_own_at (P := Try.prog) w B 22 22 26 i _ 35 56 ht hi hz hsize hby (voteA_size zeroVote_ok) (by omega) v n xs hown ad l.length c (votesC l) (votesC_length hok)
      (fun j x hx => by
        have hj : j < l.length * 35 := by
          have := (List.getElem?_eq_some_iff.1 hx).1
          rw [votesC_length hok] at this
          exact this
        obtain ⟨ad', hA, _, hc⟩ := h3 (by omega)
        injection hA with hA
        subst hA
        have hk : j / 35 < l.length := by omega
        have hd : 35 * (j / 35) + j % 35 = j := by omega
        have hg := votesC_get hok (List.getElem?_eq_getElem hk) (i := j % 35) (by omega)
        have hq := hc (j / 35) _ (List.getElem?_eq_getElem hk) (j % 35) (by omega)
        rw [hd] at hg hq
        rw [hq, ← hg, hx]) (votesC_one l) (by unfold maxLen; omega) (by omega) hB
    exact ⟨v', w', hrun, q2, q3, q5⟩
/-- A row of votes of the call's own reads as these votes. -/
theorem rdW_own {w : World} {base n : Nat} {v : Value} {l : List VoteT} (h : w.ownsRow base 26 35 v n (votesC l)) (hok : ∀ x ∈ l, VoteOk x) (hn : l.length = n) (hm : n ≤ 2513169434916) : RdW w w.heap.size v l := by
  subst hn
  rcases h.2 with ⟨rfl, h0⟩ | ⟨g, cap, cur, rfl, hb, hg, hcap, _⟩
  · exact ⟨hok, none, 0, by rw [h0], by omega, hm, fun h => by omega⟩
  · have hlt : g < w.heap.size := by
      rcases Nat.lt_or_ge g w.heap.size with h' | h'
      · exact h'
      · rw [Array.getElem?_eq_none h'] at hg; cases hg
    refine ⟨hok, _, cap, rfl, hcap, hm, fun _ => ⟨_, rfl, hlt, fun k x hk i hi => ?_⟩⟩
    have hg := votesC_get hok hk hi
    have hx := voteC_length (hok x (List.mem_of_getElem? hk))
    have hxi : (voteC x)[i]? = some _ := List.getElem?_eq_getElem (l := voteC x) (i := i) (by omega)
    rw [hxi] at hg ⊢
    exact h.cells (g := g) rfl _ _ hg
set_option maxRecDepth 100000 in
theorem vote_fill (r k s : Int) (f : Nat → UInt8) : Try.prog.builtSlice 26 1 [(0, .agg (voteA ⟨r, k, s, (List.range 32).map f⟩))] = some (voteA ⟨r, k, s, (List.range 32).map f⟩) := by kernel_rfl
theorem vote_built (v : VoteT) (h : VoteOk v) : Try.prog.builtSlice 26 1 [(0, .agg (voteA v))] = some (voteA v) := by
  obtain ⟨r, k, s, id⟩ := v
  have hid : id.length = 32 := h.id
  have e : id = (List.range 32).map fun i => id.getD i 0 := List.ext_getElem? fun i => by
    by_cases hi : i < 32
    · rw [List.getElem?_map, List.getElem?_range hi, List.getElem?_eq_getElem (by omega), Option.map_some, List.getD_eq_getElem?_getD, List.getElem?_eq_getElem (by omega)]
      rfl
    · rw [List.getElem?_eq_none (by omega), List.getElem?_eq_none (by simp; omega)]
  rw [e]
  exact vote_fill r k s _
theorem wpList_build_voteL {ops : Array Oper} {rest : List Oper} {o : Oper} {a : Act} {w : World} {Q : Exit → Act → World → Prop} (hgd : o.guard = none) (x : Operand) (ho : o.op = .buildSlice 22 1 #[(0, x)]) (v : VoteT) (hv : VoteOk v) (hx : a.eval x = .agg (voteA v))
    (h : wpList Try.prog ops Q rest (a.put o.dst (.slice (some ⟨w.heap.size, 0, none⟩) 1 1)) (w.alloc (.cells (voteA v) 26))) : wpList Try.prog ops Q (o :: rest) a w :=
  Great.wpList_buildSliceTo hgd 22 26 1 _ ho _ rfl _ rfl Try.underlying22 (voteA v) (by
    have hp : ((#[(0, x)] : Array (Nat × Operand)).map fun (i, x) => (i, a.eval x)).toList = [(0, .agg (voteA v))] := by simp [hx]
    rw [hp]
    exact vote_built v hv) h
set_option maxRecDepth 100000 in
set_option maxHeartbeats 8000000 in
theorem refput_bad (n : Int) (v : Value) (x : VoteT) (hx : VoteOk x) (w : World) (hb : okPut n x.r x.k x.s x.id = false) : Calls Try.prog 20 #[.int .i64 n, v, .agg (voteA x)] w fun e w' => e = .returned (.tuple #[v, .int .i64 1]) ∧ Below w.heap.size w w' := by
  obtain ⟨W1, hW⟩ : ∃ W1, w.alloc (.cells (voteA x) 26) = W1 := ⟨_, rfl⟩
  have hb1 : Below w.heap.size w W1 := by rw [← hW]; exact (Below.refl _ _).alloc (Nat.le_refl _) _
  have k1 : Blk W1 w.heap.size 26 (voteA x) := by rw [← hW]; exact Blk.new _ _ _
  obtain ⟨c0, c1, c2, c3⟩ := vote_cells k1 hx
  have HB1 := Lib.hid hb1
  have HC3 := Lib.hid c3
  have HRI := Lib.hid fun W => right_any n x.r x.k x.s W
  obtain ⟨β, hβ⟩ : ∃ β, (decide (0 ≤ x.r) && decide (x.r < 12) && (decide (x.k = 0) || decide (x.k = 1)) && decide (0 ≤ x.s) && decide (x.s < n)) = β := ⟨_, rfl⟩
  rw [hβ] at HRI
  have hz : β = true → (x.id == zeroId) = true := fun h => by
    unfold okPut at hb
    rw [hβ, h] at hb
    simpa using hb
  have he := fun W => eql_idv hx.id zeroId_ok W
  have hg := fun y z W => guard_idv y z x.id zeroId W
  clear hb1 k1 c3 hb hβ
  cases β with
  | false =>
    clear hz
    go_enter Try.func20, Try.ntmps20
    go_wp2_with (first
      | (go_at_call 51; refine (HRI.out _).mono ?_; rintro e W2 ⟨rfl, h2⟩; obtain rfl := h2.symm))
    go_ret2
    exact ⟨rfl, HB1.out⟩
  | true =>
    rw [hz rfl] at he
    clear hz
    go_enter Try.func20, Try.ntmps20
    go_wp2_with (first
      | (go_at_call 51; refine (HRI.out _).mono ?_; rintro e W2 ⟨rfl, h2⟩; obtain rfl := h2.symm)
      | (guard_target = wpList _ _ _ (Oper.mk _ (.load 24 _) _ _ _ _ :: _) _ _; refine wpList_load_runS (by rfl) 24 _ rfl _ _ rfl HC3.out ?_)
      | (guard_target = wpList _ _ _ (Oper.mk _ (.build 24 _) _ _ _ _ :: _) _ _; refine wpList_build_zeroG (by rfl) rfl ?_))
    go_ret2
    exact ⟨rfl, HB1.out⟩
theorem own_none (w : World) (B : Nat) (hB : B ≤ w.heap.size) : (w.alloc (.cells #[] 26)).ownsRow B 26 35 (.slice (some ⟨w.heap.size, 0, none⟩) 0 0) 0 [] :=
  ⟨rfl, .inr ⟨w.heap.size, 0, #[], rfl, hB, heap_alloc_new w _, Nat.le_refl _, by unfold maxLen; omega, rfl, rfl⟩⟩
theorem rowV_kept {B : Nat} {e : TypeId} {k : Nat} {v : Value} {n : Nat} {xs : List Value} {w w' : World} (h : w.ownsRow B e k v n xs) (hb : Below w.heap.size w w') : w'.ownsRow B e k v n xs := by
  refine ⟨h.1, ?_⟩
  rcases h.2 with h0 | ⟨g, cap, cur, h1, h2, h3, h4⟩
  · exact .inl h0
  · refine .inr ⟨g, cap, cur, h1, h2, (hb.block g ?_).trans h3, h4⟩
    rcases Nat.lt_or_ge g w.heap.size with h' | h'
    · exact h'
    · rw [Array.getElem?_eq_none h'] at h3; cases h3
theorem rdW_new (w : World) (x : VoteT) (hx : VoteOk x) : RdW (w.alloc (.cells (voteA x) 26)) (w.heap.size + 1) (.slice (some ⟨w.heap.size, 0, none⟩) 1 1) [x] := by
  refine ⟨fun y hy => by rw [List.mem_singleton] at hy; rw [hy]; exact hx, _, 1, rfl, Nat.le_refl _, by simp, fun _ => ⟨_, rfl, Nat.lt_succ_self _, fun k y hk i hi => ?_⟩⟩
  have hk0 : k = 0 ∧ y = x := by
    cases k with
    | zero => simpa [eq_comm] using hk
    | succ k => simp at hk
  obtain ⟨rfl, rfl⟩ := hk0
  have e : (⟨w.heap.size, 0, none⟩ : Addr).add (35 * 0 + i) = ⟨w.heap.size, i, none⟩ := by unfold Addr.add; split <;> simp_all
  rw [e, (Blk.new w _ (voteA y)).cell]
  unfold voteA
  rw [List.getElem?_toArray]
section
variable {P : Program}
theorem oper_append {o : Oper} {a : Act} {w : World} {K : Act → World → Prop} {Q : Exit → Act → World → Prop} (s x : Operand) (t t' : TypeId) (ho : o.op = .call { callee := .builtin .append, args := #[s, x], argTypes := #[t, t'] })
    (vs vx : Value) (hs : a.eval s = vs) (hx : a.eval x = vx) (v : Value) (w' : World) (hrun : (Builtin.append_ #[t, t'] o.type #[vs, vx]).run P w = .ok v w') (h : K (a.put o.dst v) w') : Oper.wp P o a w K Q := by
  unfold Oper.wp
  simp [execOp, ho, resolve, invoke, builtin, hs, hx, hrun, Result.andThen, Oper.upon]
  exact h
theorem wpList_append_run {ops : Array Oper} {rest : List Oper} {o : Oper} {a : Act} {w : World} {Q : Exit → Act → World → Prop} (hgd : o.guard = none) (s x : Operand) (t t' : TypeId) (ho : o.op = .call { callee := .builtin .append, args := #[s, x], argTypes := #[t, t'] })
    (vs vx : Value) (hs : a.eval s = vs) (hx : a.eval x = vx) (v : Value) (w' : World) (hrun : (Builtin.append_ #[t, t'] o.type #[vs, vx]).run P w = .ok v w') (h : wpList P ops Q rest (a.put o.dst v) w') : wpList P ops Q (o :: rest) a w :=
  wpList_plain hgd fun _ hK => oper_append s x t t' ho vs vx hs hx v w' hrun (hK _ _ h)
end
theorem okPut_right {n : Int} {x : VoteT} (h : okPut n x.r x.k x.s x.id = true) : (decide (0 ≤ x.r) && decide (x.r < 12) && (decide (x.k = 0) || decide (x.k = 1)) && decide (0 ≤ x.s) && decide (x.s < n)) = true ∧ (x.id == zeroId) = false := by
  unfold okPut at h
  rw [Bool.and_eq_true] at h
  exact ⟨h.1, by simpa using h.2⟩
set_option maxRecDepth 100000 in
set_option maxHeartbeats 8000000 in
theorem refput_twice (n : Int) (v : Value) (l : List VoteT) (x : VoteT) (hx : VoteOk x) (w : World) (hr : RdW w w.heap.size v l) (hb : okPut n x.r x.k x.s x.id = true) (ht : (refGet l x.r x.k x.s == zeroId) = false) : Calls Try.prog 20 #[.int .i64 n, v, .agg (voteA x)] w fun e w' => e = .returned (.tuple #[v, .int .i64 5]) ∧ Below w.heap.size w w' := by
  obtain ⟨W1, hW⟩ : ∃ W1, w.alloc (.cells (voteA x) 26) = W1 := ⟨_, rfl⟩
  have hb1 : Below w.heap.size w W1 := by rw [← hW]; exact (Below.refl _ _).alloc (Nat.le_refl _) _
  have k1 : Blk W1 w.heap.size 26 (voteA x) := by rw [← hW]; exact Blk.new _ _ _
  obtain ⟨c0, c1, c2, c3⟩ := vote_cells k1 hx
  have HB1 := Lib.hid hb1
  have HC3 := Lib.hid c3
  have HRI := Lib.hid fun W => right_any n x.r x.k x.s W
  obtain ⟨hq, hz⟩ := okPut_right hb
  rw [hq] at HRI
  have HGE := Lib.hid (refget_any v l x.r x.k x.s W1 ((hr.old hb1).mono hb1.size))
  have hgo := refGet_ok hr.1 x.r x.k x.s
  generalize refGet l x.r x.k x.s = g at HGE ht hgo
  have he := fun W => eql_idv hx.id zeroId_ok W
  have hg := fun y z W => guard_idv y z x.id zeroId W
  have hn := fun W => neq_idv hgo zeroId_ok W
  have hgn := fun y z W => guardn_idv y z g zeroId W
  rw [hz] at he
  rw [ht] at hn
  simp only [Bool.not_false] at hn
  clear hb1 k1 c3 hb hq hz ht hgo hr
  go_enter Try.func20, Try.ntmps20
  go_wp2_with (first
    | (go_at_call 51; refine (HRI.out _).mono ?_; rintro e W2 ⟨rfl, h2⟩; obtain rfl := h2.symm)
    | (go_at_call 31; refine HGE.out.mono ?_; rintro e W3 ⟨rfl, hb3⟩; have HB3 := Lib.hid (HB1.out.trans (hb3.mono HB1.out.size)); clear hb3)
    | (guard_target = wpList _ _ _ (Oper.mk _ (.load 24 _) _ _ _ _ :: _) _ _; refine wpList_load_runS (by rfl) 24 _ rfl _ _ rfl HC3.out ?_)
    | (guard_target = wpList _ _ _ (Oper.mk _ (.build 24 _) _ _ _ _ :: _) _ _; refine wpList_build_zeroG (by rfl) rfl ?_))
  go_ret2
  exact ⟨rfl, HB3.out⟩
set_option maxRecDepth 100000 in
set_option maxHeartbeats 8000000 in
theorem refput_new (n : Int) (v : Value) (l : List VoteT) (x : VoteT) (hx : VoteOk x) (w : World) (hr : RdW w w.heap.size v l) (hb : okPut n x.r x.k x.s x.id = true) (ht : (refGet l x.r x.k x.s == zeroId) = true) (hlen : l.length ≤ 1000000) :
    Calls Try.prog 20 #[.int .i64 n, v, .agg (voteA x)] w fun e w' => ∃ v', e = .returned (.tuple #[v', .int .i64 0]) ∧ RdW w' w'.heap.size v' (l ++ [x]) ∧ Below w.heap.size w w' := by
  obtain ⟨W1, hW⟩ : ∃ W1, w.alloc (.cells (voteA x) 26) = W1 := ⟨_, rfl⟩
  have hb1 : Below w.heap.size w W1 := by rw [← hW]; exact (Below.refl _ _).alloc (Nat.le_refl _) _
  have k1 : Blk W1 w.heap.size 26 (voteA x) := by rw [← hW]; exact Blk.new _ _ _
  obtain ⟨c0, c1, c2, c3⟩ := vote_cells k1 hx
  have HB1 := Lib.hid hb1
  have HK1 := Lib.hid k1
  have HC3 := Lib.hid c3
  have HXO := Lib.hid hx
  have HR := Lib.hid hr
  have HRI := Lib.hid fun W => right_any n x.r x.k x.s W
  obtain ⟨hq, hz⟩ := okPut_right hb
  rw [hq] at HRI
  have HGE := Lib.hid (refget_any v l x.r x.k x.s W1 ((hr.old hb1).mono hb1.size))
  have hgo := refGet_ok hr.1 x.r x.k x.s
  generalize refGet l x.r x.k x.s = g at HGE ht hgo
  have he := fun W => eql_idv hx.id zeroId_ok W
  have hg := fun y z W => guard_idv y z x.id zeroId W
  have hn := fun W => neq_idv hgo zeroId_ok W
  have hgn := fun y z W => guardn_idv y z g zeroId W
  rw [hz] at he
  rw [ht] at hn
  simp only [Bool.not_true] at hn
  obtain ⟨A, c, hv⟩ : ∃ A c, v = .slice A l.length c := by obtain ⟨_, A, c, h, _⟩ := hr; exact ⟨A, c, h⟩
  subst hv
  obtain ⟨m, hm⟩ : ∃ m, l.length = m := ⟨_, rfl⟩
  rw [hm] at HR HGE hlen ⊢
  have HM := Lib.hid hm
  clear hb1 k1 c3 hb hq hz ht hgo hr hx hm
  go_enter Try.func20, Try.ntmps20
  go_upto_region 5 with (first
    | (go_at_call 51; refine (HRI.out _).mono ?_; rintro e W2 ⟨rfl, h2⟩; obtain rfl := h2.symm)
    | (go_at_call 31; refine HGE.out.mono ?_; rintro e W3 ⟨rfl, hb3⟩; have HK3 := Lib.hid (HK1.out.below hb3 HK1.out.lt); have HB3 := Lib.hid (HB1.out.trans (hb3.mono HB1.out.size)); clear hb3)
    | (guard_target = wpList _ _ _ (Oper.mk _ (.load 24 _) _ _ _ _ :: _) _ _; refine wpList_load_runS (by rfl) 24 _ rfl _ _ rfl HC3.out ?_)
    | (guard_target = wpList _ _ _ (Oper.mk _ (.build 24 _) _ _ _ _ :: _) _ _; refine wpList_build_zeroG (by rfl) rfl ?_))
  clear c0 c1 c2 he hg hn hgn
  have hb4 : Below W3.heap.size W3 (W3.alloc (.cells #[] 26)) := (Below.refl _ _).alloc (Nat.le_refl _) _
  have hs4 : (W3.alloc (.cells #[] 26)).heap.size = W3.heap.size + 1 := by simp
  obtain ⟨v1, W5, hrun1, hown1, hgr1, _⟩ := app_votes (B := W3.heap.size) (by rw [hs4]; omega) (own_none W3 W3.heap.size (Nat.le_refl _)) ((HR.out.old HB3.out).old (hb4.mono HB3.out.size)) (by omega)
  have hb5 : Below W3.heap.size W3 W5 := hb4.grown hgr1 (by rw [hs4]; omega) (fun i hi => by simp [Value.ownBlock] at hi; omega)
  have hk5 := HK3.out.below hb5 HK3.out.lt
  have hb6 : Below W5.heap.size W5 (W5.alloc (.cells (voteA x) 26)) := (Below.refl _ _).alloc (Nat.le_refl _) _
  have hs6 : (W5.alloc (.cells (voteA x) 26)).heap.size = W5.heap.size + 1 := by simp
  have hz5 := hb5.size
  have hown1' := rowV_kept hown1 hb6
  obtain ⟨v2, W7, hrun2, hown2, hgr2, _⟩ := app_votes (B := W3.heap.size) (by rw [hs6]; omega) hown1' (rdW_new W5 x HXO.out) (by omega)
  have hb7 : Below W3.heap.size W3 W7 := (hb5.trans (hb6.mono hz5)).grown hgr2 (by rw [hs6]; omega) (fun i hi => (hown1'.lt i hi).1)
  have HFIN : Hid (RdW W7 W7.heap.size v2 (l ++ [x]) ∧ Below w.heap.size w W7) := Lib.hid ⟨rdW_own (n := 0 + m + 1) (by rw [votesC_append]; simpa using hown2) (fun y hy => by
    rcases List.mem_append.1 hy with h | h
    · exact HR.out.1 y h
    · rw [List.mem_singleton] at h
      rw [h]
      exact HXO.out) (by rw [List.length_append, HM.out]; simp) (by omega), HB3.out.trans (hb7.mono HB3.out.size)⟩
  have HR1 := Lib.hid hrun1
  have HR2 := Lib.hid hrun2
  have hld : (Instr.loadAt 26 (.pointer (some ⟨w.heap.size, 0, none⟩))).run Try.prog W5 = .ok (.agg (voteA x)) W5 := run_loadVar_row W5 w.heap.size 26 26 (voteA x) (0, 0) _ hk5 Try.underlying26 rfl (by rw [voteA_size HXO.out]; exact vote_info)
  have HLD := Lib.hid hld
  clear hb4 hs4 hrun1 hown1 hgr1 hb5 hk5 hb6 hs6 hz5 hown1' hrun2 hown2 hgr2 hb7 hld
  go_wp2_with (first
    | (at_builtin; refine wpList_append_run rfl (.tmp 36) (.tmp 37) _ _ rfl _ _ rfl rfl _ _ HR1.out ?_)
    | (at_builtin; refine wpList_append_run rfl (.tmp 39) (.tmp 41) _ _ rfl _ _ rfl rfl _ _ HR2.out ?_)
    | (guard_target = wpList _ _ _ (Oper.mk _ (.load 26 _) _ _ _ _ :: _) _ _; refine wpList_load_vote (by rfl) _ rfl ⟨w.heap.size, 0, none⟩ x rfl HLD.out ?_)
    | (guard_target = wpList _ _ _ (Oper.mk _ (.buildSlice _ 1 _) _ _ _ _ :: _) _ _; refine wpList_build_voteL rfl _ rfl x HXO.out rfl ?_))
  go_ret2
  exact ⟨v2, rfl, HFIN.out.1, HFIN.out.2⟩
end Go.Proofs.Ytpjeildiahklpaa
