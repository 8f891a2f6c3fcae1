/-
  tree.Root; that 'grows' holds: the sum of two leaves, by the kernel. In whatever memory in which the tables lie. No condition.
  That 'grows' holds, in whatever memory in which the tables lie. No condition.
  cut: not more than so many; the reference's Same, of like lists. No condition.
-/
import Derived.Test.YtkkanaefngggoaaDoorTreeFn
import Derived.Test.YtkkanaefngggoaaDoorKSha
import Derived.Great.Walk
import Derived.Deep.DeepMust
namespace Go.Proofs.YtkkanaefngggoaaDoor
open Go Go.RowKit Go.Shelf TreeM

theorem neq_id (f g : D) (w : World) : (binOp .neq 30 (.agg (arr 32 fun i => bv (f i))) (.agg (arr 32 fun i => bv (g i)))).run Tryd.prog w = .ok (.bool (!(id32 f == id32 g))) w := by
  have h := eql_id f g w
  generalize (id32 f == id32 g) = β at h ⊢
  generalize (arr 32 fun i => bv (f i)) = x at h ⊢
  generalize (arr 32 fun i => bv (g i)) = y at h ⊢
  rw [run_eql_struct] at h
  rw [run_neq_struct]
  generalize (Op.equalIn 10000 30 (.agg x) (.agg y)).run Tryd.prog w = r at h ⊢
  cases r with
  | ok b w' =>
    simp only [Result.andThen_ok, Result.ok.injEq, Value.bool.injEq] at h
    obtain ⟨rfl, rfl⟩ := h
    rfl
  | halt _ _ => cases h
set_option maxRecDepth 100000 in
set_option maxHeartbeats 2000000 in
theorem troot_any (v : Value) (l : List D) (w : World) (hT : Tables w) (hr : RdI w (fun b => b < w.heap.size) v l) (hn : l.length ≤ 1099511627776) :
    Calls Tryd.prog 27 #[v] w fun e w' => e = .returned (.agg (arr 32 fun i => bv (mth l i))) ∧ Below w.heap.size w w' := by
  obtain ⟨A, c, rfl, _⟩ := id hr
  have hb0 : Below w.heap.size w (w.alloc (.cells #[.int .u8 0, .int .u8 0, .int .u8 0, .int .u8 0, .int .u8 0, .int .u8 0, .int .u8 0, .int .u8 0, .int .u8 0, .int .u8 0, .int .u8 0, .int .u8 0, .int .u8 0, .int .u8 0, .int .u8 0, .int .u8 0, .int .u8 0, .int .u8 0, .int .u8 0, .int .u8 0, .int .u8 0, .int .u8 0, .int .u8 0, .int .u8 0, .int .u8 0, .int .u8 0, .int .u8 0, .int .u8 0, .int .u8 0, .int .u8 0, .int .u8 0, .int .u8 0] 30)) := (Below.refl _ _).alloc (Nat.le_refl _) _
  have hS0 : Blk (w.alloc (.cells #[.int .u8 0, .int .u8 0, .int .u8 0, .int .u8 0, .int .u8 0, .int .u8 0, .int .u8 0, .int .u8 0, .int .u8 0, .int .u8 0, .int .u8 0, .int .u8 0, .int .u8 0, .int .u8 0, .int .u8 0, .int .u8 0, .int .u8 0, .int .u8 0, .int .u8 0, .int .u8 0, .int .u8 0, .int .u8 0, .int .u8 0, .int .u8 0, .int .u8 0, .int .u8 0, .int .u8 0, .int .u8 0, .int .u8 0, .int .u8 0, .int .u8 0, .int .u8 0] 30)) w.heap.size 30 #[.int .u8 0, .int .u8 0, .int .u8 0, .int .u8 0, .int .u8 0, .int .u8 0, .int .u8 0, .int .u8 0, .int .u8 0, .int .u8 0, .int .u8 0, .int .u8 0, .int .u8 0, .int .u8 0, .int .u8 0, .int .u8 0, .int .u8 0, .int .u8 0, .int .u8 0, .int .u8 0, .int .u8 0, .int .u8 0, .int .u8 0, .int .u8 0, .int .u8 0, .int .u8 0, .int .u8 0, .int .u8 0, .int .u8 0, .int .u8 0, .int .u8 0, .int .u8 0] := Blk.new _ _ _
  have HOF := Lib.hid (treeOf_any _ l _ (hT.below hb0) (hr.below hb0) hn)
  have HRT := Lib.hid fun g Z W hb h => callsIn_wide.1 (treeRoot_any Z g l W (hT.below hb) h)
  have HB0 := Lib.hid hb0
  have HS0 := Lib.hid hS0
  generalize l.length = n at *
  generalize mth l = R at *
  clear hb0 hS0 hr hT
  go_enter Tryd.func27, Tryd.ntmps27
  go_wp2_with (first
    | (go_at_call 19; refine HOF.out.mono ?_; rintro e W1 ⟨g, Z, rfl, ht, hb1, _⟩; have HB1 := Lib.hid (HB0.out.trans (hb1.mono HB0.out.size)); have HS1 := Lib.hid (HS0.out.below hb1 HS0.out.lt); have HRT1 := Lib.hid (HRT.out g Z W1 HB1.out ht); clear ht hb1)
    | (go_at_call 21; refine HRT1.out.mono ?_; rintro e W2 ⟨rfl, hb2⟩; have HB2 := Lib.hid (HB1.out.trans (hb2.mono HB1.out.size)); have HS2 := Lib.hid (HS1.out.below hb2 HS1.out.lt); clear hb2)
    | (refine wpList_store_arrW rfl 30 _ _ rfl w.heap.size (arr 32 fun i => bv (R i)) rfl rfl 30 _ HS2.out (by rw [arr_size]; kernel_rfl) (by rw [arr_size]; rfl) (arr_all_bv _ _) ?_; intro W3 hS3 hz3 hb3 hk3))
  refine bodyPost_ret (results_cell_row (p := 2) (ty := 30) rfl _ _ w.heap.size 30 _ (0, 0) _ rfl hS3 Tryd.underlying30 rfl (by rw [arr_size]; kernel_rfl)) rfl ?_
  exact ⟨rfl, HB2.out.trans hb3⟩

/-! ### The guard -/
def d1 : D := fun i => if i = 0 then 1 else 0
def d2 : D := fun i => if i = 0 then 2 else 0
theorem mth_two (a b : D) : mth [a, b] = node a b := by
  rw [mth_halves (by simp)]
  have h : half [a, b].length = 1 := by show half 2 = 1; decide
  rw [h]
  simp [mth_one]
theorem grow_sum : KSha.sha [1, 1, 0, 0, 0, 0, 0, 0, 0, 0, 0, 0, 0, 0, 0, 0, 0, 0, 0, 0, 0, 0, 0, 0, 0, 0, 0, 0, 0, 0, 0, 0, 0, 2, 0, 0, 0, 0, 0, 0, 0, 0, 0, 0, 0, 0, 0, 0, 0, 0, 0, 0, 0, 0, 0, 0, 0, 0, 0, 0, 0, 0, 0, 0, 0] 65 = [2135979342, 3817840691, 401432574, 1328208148, 2156220330, 4183132268, 3615552372, 4200956662] := by kernel_rfl
theorem grow_neq : (id32 (node d1 d2) == id32 (fun _ => 0)) = false := by
  have h := sha_known [1, 1, 0, 0, 0, 0, 0, 0, 0, 0, 0, 0, 0, 0, 0, 0, 0, 0, 0, 0, 0, 0, 0, 0, 0, 0, 0, 0, 0, 0, 0, 0, 0, 2, 0, 0, 0, 0, 0, 0, 0, 0, 0, 0, 0, 0, 0, 0, 0, 0, 0, 0, 0, 0, 0, 0, 0, 0, 0, 0, 0, 0, 0, 0, 0] 65 [2135979342, 3817840691, 401432574, 1328208148, 2156220330, 4183132268, 3615552372, 4200956662] rfl (by omega) (by decide) grow_sum 0 (by omega)
  have e : node d1 d2 0 = 127 := by
    unfold node
    rw [show (1 :: (idl d1 ++ idl d2) : List UInt8) = ([1, 1, 0, 0, 0, 0, 0, 0, 0, 0, 0, 0, 0, 0, 0, 0, 0, 0, 0, 0, 0, 0, 0, 0, 0, 0, 0, 0, 0, 0, 0, 0, 0, 2, 0, 0, 0, 0, 0, 0, 0, 0, 0, 0, 0, 0, 0, 0, 0, 0, 0, 0, 0, 0, 0, 0, 0, 0, 0, 0, 0, 0, 0, 0, 0] : List Nat).map UInt8.ofNat from by decide, h]
    decide
  refine beq_eq_false_iff_ne.2 fun hq => ?_
  have := congrArg (fun l : List UInt8 => l[0]?) hq
  simp [id32, e] at this
end Go.Proofs.YtkkanaefngggoaaDoor
namespace Go.Proofs.YtkkanaefngggoaaDoor
open Go Go.RowKit Go.Shelf TreeM

section
variable {P : Program} {ops : Array Oper} {rest : List Oper} {o : Oper} {a : Act} {w : World} {Q : Exit → Act → World → Prop}
/-- An array or struct literal, its cells said. -/
theorem wpList_buildTo (hw : Region.wanted o (yielded ops a.tmps) = true) (t : TypeId) (parts : Array (Nat × Operand)) (ho : o.op = .build t parts) (cells : Array Value)
    (hf : P.built t (parts.map fun (i, x) => (i, a.eval x)).toList = some cells)
    (h : wpList P ops Q rest (a.put o.dst (.agg cells)) w) : wpList P ops Q (o :: rest) a w :=
  wpList_step fun K hK => by
    rw [if_pos hw]
    refine wp_build t parts ho (by rw [hf]; rfl) (hK _ _ ?_)
    rw [hf]
    exact h
/-- A small slice literal, its cells said. -/
theorem wpList_buildSliceW (hg : o.guard = none) (t e : TypeId) (len : Nat) (parts : Array (Nat × Operand)) (ho : o.op = .buildSlice t len parts) (hu : P.underlying t = some (.slice e)) (cells : Array Value)
    (hf : P.builtSlice e len (parts.map fun (i, x) => (i, a.eval x)).toList = some cells)
    (h : wpList P ops Q rest (a.put o.dst (.slice (some ⟨w.heap.size, 0, none⟩) len len)) (w.alloc (.cells cells e))) : wpList P ops Q (o :: rest) a w :=
  Great.wpList_buildSliceTo hg t e len parts ho _ rfl _ rfl hu cells hf h
end
/-- A row of IDs that has just been laid. -/
theorem rdI_new (w : World) (l : List D) (n : Nat) (hn : l.length = n) (hm : n ≤ 4398046511104) : RdI (w.alloc (.cells (idCells l).toArray 30)) (fun b => b = w.heap.size) (.slice (some ⟨w.heap.size, 0, none⟩) n n) l := by
  subst hn
  refine ⟨_, _, rfl, Nat.le_refl _, hm, fun h0 => ⟨⟨w.heap.size, 0, none⟩, rfl, rfl, fun k hk i hi => ?_⟩⟩
  rw [add_zero_block, (Blk.new w 30 (idCells l).toArray).cell, List.getElem?_toArray, idCells_at l k i hk hi]
set_option maxRecDepth 100000 in
set_option maxHeartbeats 2000000 in
theorem grows_any (w : World) (hT : Tables w) :
    Calls Tryd.prog 17 #[] w fun e w' => e = .returned (.bool true) ∧ Below w.heap.size w w' := by
  have hb0 : Below w.heap.size w (w.alloc (.cells (idCells [d1, d2]).toArray 30)) := (Below.refl _ _).alloc (Nat.le_refl _) _
  have HOF : Hid (Calls Tryd.prog 19 #[.slice (some ⟨w.heap.size, 0, none⟩) 2 2] (w.alloc (.cells (idCells [d1, d2]).toArray 30)) fun e w' => ∃ g Z, e = .returned (.pointer (some ⟨g, 0, none⟩)) ∧ TreeAt w' Z g [d1, d2] ∧ Below w.heap.size w w') := Lib.hid ((treeOf_any _ [d1, d2] _ (hT.below hb0) ((rdI_new w [d1, d2] 2 rfl (by omega)).mono fun b hb => by rw [hb]; simp) (by simp)).mono (by
    rintro e w' ⟨g, Z, h1, h2, h3, _⟩
    exact ⟨g, Z, h1, h2, hb0.trans (h3.mono hb0.size)⟩))
  have HRT : Hid (∀ g Z W, Below w.heap.size w W → TreeAt W Z g [d1, d2] → Calls Tryd.prog 21 #[.pointer (some ⟨g, 0, none⟩)] W fun e w' => e = .returned (.agg (arr 32 fun i => bv (node d1 d2 i))) ∧ Below W.heap.size W w') := Lib.hid fun g Z W hb h => by
    have := callsIn_wide.1 (treeRoot_any Z g [d1, d2] W (hT.below hb) h)
    rw [mth_two] at this
    exact this
  have HSZ := Lib.hid fun g Z W h => treeSize_any Z g [d1, d2] W h
  have HND : Hid (∀ W, Below w.heap.size w W → Calls Tryd.prog 33 #[.agg (arr 32 fun i => bv (d1 i)), .agg (arr 32 fun i => bv (d2 i))] W fun e w' => e = .returned (.agg (arr 32 fun i => bv (node d1 d2 i))) ∧ Below W.heap.size W w') := Lib.hid fun W hb => node_any d1 d2 W (hT.below hb)
  have HTR : Hid (∀ W, Below w.heap.size w W → Calls Tryd.prog 27 #[.slice none 0 0] W fun e w' => e = .returned (.agg (arr 32 fun i => bv (sha [] i))) ∧ Below W.heap.size W w') := Lib.hid fun W hb => by
    have := troot_any (.slice none 0 0) [] W (hT.below hb) (RdI.nil _ _ _ _) (by simp)
    rw [mth_nil] at this
    exact this
  have HSO : Hid (∀ W, Below w.heap.size w W → Calls Tryd.prog 43 #[.slice none 0 0] W fun e w' => e = .returned (.agg (arr 32 fun i => bv (sha [] i))) ∧ Below W.heap.size W w') := Lib.hid fun W hb => callsIn_wide.1 (of_any none 0 [] (by simp) (by simp) W (hT.below hb) (fun k hk => by simp at hk))
  have HB0 := Lib.hid hb0
  have hB1 : Tryd.prog.built 30 [(0, .int .u8 1)] = some (arr 32 fun i => bv (d1 i)) := by kernel_rfl
  have hB2 : Tryd.prog.built 30 [(0, .int .u8 2)] = some (arr 32 fun i => bv (d2 i)) := by kernel_rfl
  have hBZ : Tryd.prog.built 30 [] = some (arr 32 fun i => bv ((fun _ => 0 : D) i)) := by kernel_rfl
  have hBS : Tryd.prog.builtSlice 30 2 [(0, .agg (arr 32 fun i => bv (d1 i))), (1, .agg (arr 32 fun i => bv (d2 i)))] = some (idCells [d1, d2]).toArray := by kernel_rfl
  have eq1 := eql_id (node d1 d2) (node d1 d2)
  have eq2 := eql_id (sha []) (sha [])
  have ne1 := neq_id (node d1 d2) (fun _ => 0)
  rw [grow_neq] at ne1
  rw [beq_self_eq_true] at eq1 eq2
  clear hb0 hT
  generalize (arr 32 fun i => bv ((fun _ => 0 : D) i)) = zr at *
  generalize (arr 32 fun i => bv (d1 i)) = a1 at *
  generalize (arr 32 fun i => bv (d2 i)) = a2 at *
  generalize (arr 32 fun i => bv (node d1 d2 i)) = nd at *
  generalize (arr 32 fun i => bv (sha [] i)) = e0 at *
  generalize (idCells [d1, d2]).toArray = cs at *
  go_enter Tryd.func17, Tryd.ntmps17
  go_wp2_with (first
    | (guard_target = wpList _ _ _ (Oper.mk _ (.build _ #[(0, .const (.int .u8 1))]) _ _ _ _ :: _) _ _; go_must (refine wpList_buildTo (by rfl) 30 #[(0, .const (.int .u8 1))] rfl a1 (by simp only [List.map_toArray, List.map_cons, List.map_nil]; exact hB1) ?_))
    | (guard_target = wpList _ _ _ (Oper.mk _ (.build _ #[(0, .const (.int .u8 2))]) _ _ _ _ :: _) _ _; go_must (refine wpList_buildTo (by rfl) 30 #[(0, .const (.int .u8 2))] rfl a2 (by simp only [List.map_toArray, List.map_cons, List.map_nil]; exact hB2) ?_))
    | (guard_target = wpList _ _ _ (Oper.mk _ (.build _ #[]) _ _ _ _ :: _) _ _; go_must (refine wpList_buildTo (by rfl) 30 #[] rfl zr (by simp only [List.map_toArray, List.map_nil]; exact hBZ) ?_))
    | (guard_target = wpList _ _ _ (Oper.mk _ (.buildSlice _ _ _) _ _ _ _ :: _) _ _; go_must (refine wpList_buildSliceW rfl 22 30 2 _ rfl Tryd.underlying22 cs (by simp only [List.map_toArray, List.map_cons, List.map_nil]; exact hBS) ?_))
    | (go_at_call 19; refine HOF.out.mono ?_; rintro e W1 ⟨g, Z, rfl, ht, hb1⟩; have HT1 := Lib.hid ht; have HB1 := Lib.hid hb1; clear ht hb1)
    | (go_at_call 23; refine (HSZ.out g Z W1 HT1.out).mono ?_; rintro e W2 ⟨rfl, rfl⟩)
    | (go_at_call 21; refine (HRT.out g Z _ HB1.out HT1.out).mono ?_; rintro e W3 ⟨rfl, hb3⟩; have HB3 := Lib.hid (HB1.out.trans (hb3.mono HB1.out.size)); have HT3 := Lib.hid (RangeAt.below HT1.out hb3); clear hb3)
    | (go_at_call 33; refine (HND.out _ HB3.out).mono ?_; rintro e W4 ⟨rfl, hb4⟩; have HB4 := Lib.hid (HB3.out.trans (hb4.mono HB3.out.size)); have HT4 := Lib.hid (RangeAt.below HT3.out hb4); clear hb4)
    | (go_at_call 21; refine (HRT.out g Z _ HB4.out HT4.out).mono ?_; rintro e W5 ⟨rfl, hb5⟩; have HB5 := Lib.hid (HB4.out.trans (hb5.mono HB4.out.size)); clear hb5)
    | (go_at_call 27; refine (HTR.out _ HB5.out).mono ?_; rintro e W6 ⟨rfl, hb6⟩; have HB6 := Lib.hid (HB5.out.trans (hb6.mono HB5.out.size)); clear hb6)
    | (go_at_call 43; refine (HSO.out _ HB6.out).mono ?_; rintro e W7 ⟨rfl, hb7⟩; have HB7 := Lib.hid (HB6.out.trans (hb7.mono HB6.out.size)); clear hb7))
  go_ret
  exact ⟨rfl, HB7.out⟩
end Go.Proofs.YtkkanaefngggoaaDoor
namespace Go.Proofs.YtkkanaefngggoaaDoor
open Go Go.RowKit Go.Shelf TreeM

section
variable {P : Program} {ops : Array Oper} {w : World}
theorem wpStill_load_at {Q : Act → Prop} {a : Act} {o : Oper} {rest : List Oper} (hgd : o.guard = none) (ty : TypeId) (x : Operand) (ho : o.op = .load ty x) (ad : Addr) (hx : a.eval x = .pointer (some ad)) (N : Nat) (f : Nat → Value) (e : TypeId)
    (hg : ∀ i, i < N → w.cell? (ad.add i) = some (f i)) (hu : P.underlying ty = some (.array N e)) (hi : (P.info? ty).map (·.size) = some N) (h : wpStill P ops w Q rest (a.put o.dst (.agg (arr N f)))) : wpStill P ops w Q (o :: rest) a := by
  refine wpStill_step fun K hK => ?_
  rw [if_pos (by simp [Region.wanted, hgd])]
  unfold Oper.still
  have hl := run_loadAt_cells (P := P) ty ad N f e w hg hu hi
  have e : (execOp a.eval o).run P w = .ok (.value (.agg (arr N f))) w := by
    simp only [execOp, ho, hx, Sem.run_bind, hl, Result.andThen_ok, Sem.run_pure]
  rw [e, Oper.stillUpon_value]
  exact hK _ h
theorem wpStill_bin {Q : Act → Prop} {a : Act} {o : Oper} {rest : List Oper} (hgd : o.guard = none) (op : BinOp) (t rt : TypeId) (x y : Operand) (ho : o.op = .binOp op t x y rt) (vx vy v : Value) (hx : a.eval x = vx) (hy : a.eval y = vy)
    (hq : (eqGuard op t x y vx vy).run P w = .ok () w) (hv : (binOp op t vx vy).run P w = .ok v w) (h : wpStill P ops w Q rest (a.put o.dst v)) : wpStill P ops w Q (o :: rest) a := by
  refine wpStill_step fun K hK => ?_
  rw [if_pos (by simp [Region.wanted, hgd])]
  unfold Oper.still
  subst hx hy
  have e : (execOp a.eval o).run P w = .ok (.value v) w := by
    simp [execOp, ho, hq, hv]
  rw [e, Oper.stillUpon_value]
  exact hK _ h
end
set_option maxRecDepth 100000 in
set_option maxHeartbeats 1000000 in
theorem cut_any (A : Option Addr) (n c m q : Nat) (hn : n ≤ c) (hq : min n m = q) (_hm : m ≤ 1000) (w : World) :
    Calls Tryd.prog 18 #[.slice A n c, .int .i64 (m : Int)] w fun e w' => e = .returned (.slice A q c) ∧ w' = w := by
  have hsl := run_slice_toN (P := Tryd.prog) 22 30 Tryd.underlying22 32 (by kernel_rfl) A n c q (by omega)
  have hmin : min (n : Int) (m : Int) = (q : Int) := by omega
  have hmin2 : (if (m : Int) < (n : Int) then (m : Int) else (n : Int)) = (q : Int) := by split <;> omega
  go_enter Tryd.func18, Tryd.ntmps18
  go_wp2
  go_ret
  exact ⟨rfl, rfl⟩
set_option maxRecDepth 100000 in
set_option maxHeartbeats 1000000 in
theorem same_true (v v' : Value) (l : List D) (w : World) (hr : RdI w (fun b => b < w.heap.size) v l) (hr' : RdI w (fun b => b < w.heap.size) v' l) (hl : l.length ≤ 1000000) :
    Calls Tryd.prog 24 #[v, v'] w fun e w' => e = .returned (.bool true) ∧ Below w.heap.size w w' := by
  obtain ⟨A, c, rfl, _⟩ := id hr
  obtain ⟨A', c', rfl, _⟩ := id hr'
  obtain ⟨n, hn⟩ : ∃ n, l.length = n := ⟨_, rfl⟩
  rw [hn] at hr hr' hl ⊢
  have HR := Lib.hid hr
  have HR' := Lib.hid hr'
  clear hr hr'
  go_enter Tryd.func24, Tryd.ntmps24
  go_wp2
  go_loopw [5] (fun i wr => ∃ k : Nat, k ≤ n ∧ i = .int .i64 (k : Int) ∧ Below w.heap.size w wr) (fun i _ => n - (intOf i).toNat)
  case atStart => exact ⟨0, by omega, rfl, Below.refl _ _⟩
  case round =>
    obtain ⟨k, hk, rfl, hb⟩ := hrel
    by_cases hlt : k < n
    · obtain ⟨ad, rfl, hok, hc⟩ := (HR.out.old hb).at_ hlt
      obtain ⟨ad', rfl, hok', hc'⟩ := (HR'.out.old hb).at_ hlt
      obtain ⟨f, hf⟩ : ∃ f, l.getD k dz = f := ⟨_, rfl⟩
      rw [hf] at hc hc'
      have hkn : (k : Int) < (n : Int) := by omega
      have hk0 : (0 : Int) ≤ (k : Int) := by omega
      have ne := fun W => neq_id f f W
      rw [beq_self_eq_true] at ne
      rw [Nat.mul_comm 32 k] at hc hc'
      have HC := Lib.hid hc
      have HC' := Lib.hid hc'
      have HB := Lib.hid hb
      have NE := Lib.hid ne
      clear hf hc hc' hb ne hok hok'
      go_wp2
      refine wp_region_still_lit (by kernel_rfl) (by kernel_rfl) ?_
      repeat still_step
      refine wpStill_load_at rfl 30 _ rfl (ad.add (k * 32)) rfl 32 (fun i => bv (f i)) 5 HC.out Tryd.underlying30 (by kernel_rfl) ?_
      repeat still_step
      refine wpStill_load_at rfl 30 _ rfl (ad'.add (k * 32)) rfl 32 (fun i => bv (f i)) 5 HC'.out Tryd.underlying30 (by kernel_rfl) ?_
      refine wpStill_bin rfl .neq 30 _ _ _ rfl _ _ (.bool false) rfl rfl (by kernel_rfl) (NE.out _) ?_
      refine wpStill_nil ?_
      change Exit.then _ _ Exit.normal _ wr.drew
      go_wp2
      go_roundw
      case rel => exact ⟨k + 1, by omega, by go_num, HB.out.drew⟩
      case measure => simp [intOf]; omega
    · obtain rfl : k = n := by omega
      have HB := Lib.hid hb
      clear hb
      go_wp2
      go_ret
      exact ⟨rfl, HB.out⟩
end Go.Proofs.YtkkanaefngggoaaDoor
