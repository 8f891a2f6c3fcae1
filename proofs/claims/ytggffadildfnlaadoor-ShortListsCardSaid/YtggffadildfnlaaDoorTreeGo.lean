/-
  tree.Root; that 'grows' holds: the sum of two leaves, by the kernel. In whatever memory in which the tables lie. No condition.
  That 'grows' holds, in whatever memory in which the tables lie. No condition.
  cut: not more than so many; the reference's Same, of like lists. No condition.
-/
import Derived.Test.YtggffadildfnlaaDoorTreeFn
import Derived.Test.YtggffadildfnlaaDoorKSha
import Derived.Great.Walk
import Derived.Deep.DeepMust
namespace Go.Proofs.YtggffadildfnlaaDoor
open Go Go.RowKit Go.Shelf TreeM

theorem neq_id (f g : D) (w : World) : (binOp .neq 23 (.agg (arr 32 fun i => bv (f i))) (.agg (arr 32 fun i => bv (g i)))).run Tryd.prog w = .ok (.bool (!(id32 f == id32 g))) w := by
  have h := eql_id f g w
  generalize (id32 f == id32 g) = β at h ⊢
  generalize (arr 32 fun i => bv (f i)) = x at h ⊢
  generalize (arr 32 fun i => bv (g i)) = y at h ⊢
  rw [run_eql_struct] at h
  rw [run_neq_struct]
  generalize (Op.equalIn 10000 23 (.agg x) (.agg y)).run Tryd.prog w = r at h ⊢
  cases r with
  | ok b w' =>
    simp only [Result.andThen_ok, Result.ok.injEq, Value.bool.injEq] at h
    obtain ⟨rfl, rfl⟩ := h
    rfl
  | halt _ _ => cases h
set_option maxRecDepth 100000 in
set_option maxHeartbeats 2000000 in
theorem troot_any (v : Value) (l : List D) (w : World) (hT : Tables w) (hr : RdI w (fun b => b < w.heap.size) v l) (hn : l.length ≤ 1099511627776) :
    Calls Tryd.prog 22 #[v] w fun e w' => e = .returned (.agg (arr 32 fun i => bv (mth l i))) ∧ Below w.heap.size w w' := by
  obtain ⟨A, c, rfl, _⟩ := id hr
  have hb0 : Below w.heap.size w (w.alloc (.cells #[.int .u8 0, .int .u8 0, .int .u8 0, .int .u8 0, .int .u8 0, .int .u8 0, .int .u8 0, .int .u8 0, .int .u8 0, .int .u8 0, .int .u8 0, .int .u8 0, .int .u8 0, .int .u8 0, .int .u8 0, .int .u8 0, .int .u8 0, .int .u8 0, .int .u8 0, .int .u8 0, .int .u8 0, .int .u8 0, .int .u8 0, .int .u8 0, .int .u8 0, .int .u8 0, .int .u8 0, .int .u8 0, .int .u8 0, .int .u8 0, .int .u8 0, .int .u8 0] 23)) := (Below.refl _ _).alloc (Nat.le_refl _) _
  have hS0 : Blk (w.alloc (.cells #[.int .u8 0, .int .u8 0, .int .u8 0, .int .u8 0, .int .u8 0, .int .u8 0, .int .u8 0, .int .u8 0, .int .u8 0, .int .u8 0, .int .u8 0, .int .u8 0, .int .u8 0, .int .u8 0, .int .u8 0, .int .u8 0, .int .u8 0, .int .u8 0, .int .u8 0, .int .u8 0, .int .u8 0, .int .u8 0, .int .u8 0, .int .u8 0, .int .u8 0, .int .u8 0, .int .u8 0, .int .u8 0, .int .u8 0, .int .u8 0, .int .u8 0, .int .u8 0] 23)) w.heap.size 23 #[.int .u8 0, .int .u8 0, .int .u8 0, .int .u8 0, .int .u8 0, .int .u8 0, .int .u8 0, .int .u8 0, .int .u8 0, .int .u8 0, .int .u8 0, .int .u8 0, .int .u8 0, .int .u8 0, .int .u8 0, .int .u8 0, .int .u8 0, .int .u8 0, .int .u8 0, .int .u8 0, .int .u8 0, .int .u8 0, .int .u8 0, .int .u8 0, .int .u8 0, .int .u8 0, .int .u8 0, .int .u8 0, .int .u8 0, .int .u8 0, .int .u8 0, .int .u8 0] := Blk.new _ _ _
  have HOF := Lib.hid (treeOf_any _ l _ (hT.below hb0) (hr.below hb0) hn)
  have HRT := Lib.hid fun g Z W hb h => callsIn_wide.1 (treeRoot_any Z g l W (hT.below hb) h)
  have HB0 := Lib.hid hb0
  have HS0 := Lib.hid hS0
  generalize l.length = n at *
  generalize mth l = R at *
  clear hb0 hS0 hr hT
  go_enter Tryd.func22, Tryd.ntmps22
  go_wp2_with (first
    | (go_at_call 47; refine HOF.out.mono ?_; rintro e W1 ⟨g, Z, rfl, ht, hb1, _⟩; have HB1 := Lib.hid (HB0.out.trans (hb1.mono HB0.out.size)); have HS1 := Lib.hid (HS0.out.below hb1 HS0.out.lt); have HRT1 := Lib.hid (HRT.out g Z W1 HB1.out ht); clear ht hb1)
    | (go_at_call 48; refine HRT1.out.mono ?_; rintro e W2 ⟨rfl, hb2⟩; have HB2 := Lib.hid (HB1.out.trans (hb2.mono HB1.out.size)); have HS2 := Lib.hid (HS1.out.below hb2 HS1.out.lt); clear hb2)
    | (refine wpList_store_arrW rfl 23 _ _ rfl w.heap.size (arr 32 fun i => bv (R i)) rfl rfl 23 _ HS2.out (by rw [arr_size]; kernel_rfl) (by rw [arr_size]; rfl) (arr_all_bv _ _) ?_; intro W3 hS3 hz3 hb3 hk3))
  refine bodyPost_ret (results_cell_row (p := 2) (ty := 23) rfl _ _ w.heap.size 23 _ (0, 0) _ rfl hS3 Tryd.underlying23 rfl (by rw [arr_size]; kernel_rfl)) rfl ?_
  exact ⟨rfl, HB2.out.trans hb3⟩

/-! ### The guard -/
def d1 : D := fun i => if i = 0 then 1 else 0
def d2 : D := fun i => if i = 0 then 2 else 0
theorem mth_two (a b : D) : mth [a, b] = node a b := by
  rw [mth_halves (by simp)]
  have h : half [a, b].length = 1 := by show half 2 = 1; decide
  rw [h]
  simp [mth_one]
theorem grow_sum : KSha.sha [1, 1, 0, 0, 0, 0, 0, 0, 0, 0, 0, 0, 0, 0, 0, 0, 0, 0, 0, 0, 0, 0, 0, 0, 0, 0, 0, 0, 0, 0, 0, 0, 0, 2, 0, 0, 0, 0, 0, 0, 0, 0, 0, 0, 0, 0, 0, 0, 0, 0, 0, 0, 0, 0, 0, 0, 0, 0, 0, 0, 0, 0, 0, 0, 0] 65 = [2135979342, 3817840691, 401432574, 1328208148, 2156220330, 4183132268, 3615552372, 4200956662] := by kernel_rfl
theorem grow_neq : (id32 (node d1 d2) == id32 (fun _ => 0)) = false := by
  have h := sha_known [1, 1, 0, 0, 0, 0, 0, 0, 0, 0, 0, 0, 0, 0, 0, 0, 0, 0, 0, 0, 0, 0, 0, 0, 0, 0, 0, 0, 0, 0, 0, 0, 0, 2, 0, 0, 0, 0, 0, 0, 0, 0, 0, 0, 0, 0, 0, 0, 0, 0, 0, 0, 0, 0, 0, 0, 0, 0, 0, 0, 0, 0, 0, 0, 0] 65 [2135979342, 3817840691, 401432574, 1328208148, 2156220330, 4183132268, 3615552372, 4200956662] rfl (by omega) (by decide) grow_sum 0 (by omega)
  have e : node d1 d2 0 = 127 := by
    unfold node
    rw [show (1 :: (idl d1 ++ idl d2) : List UInt8) = ([1, 1, 0, 0, 0, 0, 0, 0, 0, 0, 0, 0, 0, 0, 0, 0, 0, 0, 0, 0, 0, 0, 0, 0, 0, 0, 0, 0, 0, 0, 0, 0, 0, 2, 0, 0, 0, 0, 0, 0, 0, 0, 0, 0, 0, 0, 0, 0, 0, 0, 0, 0, 0, 0, 0, 0, 0, 0, 0, 0, 0, 0, 0, 0, 0] : List Nat).map UInt8.ofNat from by decide, h]
    decide
  refine beq_eq_false_iff_ne.2 fun hq => ?_
  have := congrArg (fun l : List UInt8 => l[0]?) hq
  simp [id32, e] at this
end Go.Proofs.YtggffadildfnlaaDoor
namespace Go.Proofs.YtggffadildfnlaaDoor
open Go Go.RowKit Go.Shelf TreeM

section
variable {P : Program} {ops : Array Oper} {rest : List Oper} {o : Oper} {a : Act} {w : World} {Q : Exit → Act → World → Prop}
/-- An array or struct literal, its cells said. -/
theorem wpList_buildTo (hw : Region.wanted o (yielded ops a.tmps) = true) (t : TypeId) (parts : Array (Nat × Operand)) (ho : o.op = .build t parts) (cells : Array Value)
    (hf : P.built t (parts.map fun (i, x) => (i, a.eval x)).toList = some cells)
    (h : wpList P ops Q rest (a.put o.dst (.agg cells)) w) : wpList P ops Q (o :: rest) a w :=
  wpList_step fun K hK => by
    rw [if_pos hw]
    refine wp_build t parts ho (by rw [hf]; rfl) (hK _ _ ?_)
    rw [hf]
    exact h
/-- A small slice literal, its cells said. -/
theorem wpList_buildSliceW (hg : o.guard = none) (t e : TypeId) (len : Nat) (parts : Array (Nat × Operand)) (ho : o.op = .buildSlice t len parts) (hu : P.underlying t = some (.slice e)) (cells : Array Value)
    (hf : P.builtSlice e len (parts.map fun (i, x) => (i, a.eval x)).toList = some cells)
    (h : wpList P ops Q rest (a.put o.dst (.slice (some ⟨w.heap.size, 0, none⟩) len len)) (w.alloc (.cells cells e))) : wpList P ops Q (o :: rest) a w :=
  Great.wpList_buildSliceTo hg t e len parts ho _ rfl _ rfl hu cells hf h
end
/-- A row of IDs that has just been laid. -/
theorem rdI_new (w : World) (l : List D) (n : Nat) (hn : l.length = n) (hm : n ≤ 4398046511104) : RdI (w.alloc (.cells (idCells l).toArray 23)) (fun b => b = w.heap.size) (.slice (some ⟨w.heap.size, 0, none⟩) n n) l := by
  subst hn
  refine ⟨_, _, rfl, Nat.le_refl _, hm, fun h0 => ⟨⟨w.heap.size, 0, none⟩, rfl, rfl, fun k hk i hi => ?_⟩⟩
  rw [add_zero_block, (Blk.new w 23 (idCells l).toArray).cell, List.getElem?_toArray, idCells_at l k i hk hi]
end Go.Proofs.YtggffadildfnlaaDoor
namespace Go.Proofs.YtggffadildfnlaaDoor
open Go Go.RowKit Go.Shelf TreeM

section
variable {P : Program} {ops : Array Oper} {w : World}
theorem wpStill_load_at {Q : Act → Prop} {a : Act} {o : Oper} {rest : List Oper} (hgd : o.guard = none) (ty : TypeId) (x : Operand) (ho : o.op = .load ty x) (ad : Addr) (hx : a.eval x = .pointer (some ad)) (N : Nat) (f : Nat → Value) (e : TypeId)
    (hg : ∀ i, i < N → w.cell? (ad.add i) = some (f i)) (hu : P.underlying ty = some (.array N e)) (hi : (P.info? ty).map (·.size) = some N) (h : wpStill P ops w Q rest (a.put o.dst (.agg (arr N f)))) : wpStill P ops w Q (o :: rest) a := by
  refine wpStill_step fun K hK => ?_
  rw [if_pos (by simp [Region.wanted, hgd])]
  unfold Oper.still
  have hl := run_loadAt_cells (P := P) ty ad N f e w hg hu hi
  have e : (execOp a.eval o).run P w = .ok (.value (.agg (arr N f))) w := by
    simp only [execOp, ho, hx, Sem.run_bind, hl, Result.andThen_ok, Sem.run_pure]
  rw [e, Oper.stillUpon_value]
  exact hK _ h
theorem wpStill_bin {Q : Act → Prop} {a : Act} {o : Oper} {rest : List Oper} (hgd : o.guard = none) (op : BinOp) (t rt : TypeId) (x y : Operand) (ho : o.op = .binOp op t x y rt) (vx vy v : Value) (hx : a.eval x = vx) (hy : a.eval y = vy)
    (hq : (eqGuard op t x y vx vy).run P w = .ok () w) (hv : (binOp op t vx vy).run P w = .ok v w) (h : wpStill P ops w Q rest (a.put o.dst v)) : wpStill P ops w Q (o :: rest) a := by
  refine wpStill_step fun K hK => ?_
  rw [if_pos (by simp [Region.wanted, hgd])]
  unfold Oper.still
  subst hx hy
  have e : (execOp a.eval o).run P w = .ok (.value v) w := by
    simp [execOp, ho, hq, hv]
  rw [e, Oper.stillUpon_value]
  exact hK _ h
end
set_option maxRecDepth 100000 in
set_option maxHeartbeats 1000000 in
theorem same_true (v v' : Value) (l : List D) (w : World) (hr : RdI w (fun b => b < w.heap.size) v l) (hr' : RdI w (fun b => b < w.heap.size) v' l) (hl : l.length ≤ 1000000) :
    Calls Tryd.prog 27 #[v, v'] w fun e w' => e = .returned (.bool true) ∧ Below w.heap.size w w' := by
  obtain ⟨A, c, rfl, _⟩ := id hr
  obtain ⟨A', c', rfl, _⟩ := id hr'
  obtain ⟨n, hn⟩ : ∃ n, l.length = n := ⟨_, rfl⟩
  rw [hn] at hr hr' hl ⊢
  have HR := Lib.hid hr
  have HR' := Lib.hid hr'
  clear hr hr'
  go_enter Tryd.func27, Tryd.ntmps27
  go_wp2
  go_loopw [5] (fun i wr => ∃ k : Nat, k ≤ n ∧ i = .int .i64 (k : Int) ∧ Below w.heap.size w wr) (fun i _ => n - (intOf i).toNat)
  case atStart => exact ⟨0, by omega, rfl, Below.refl _ _⟩
  case round =>
    obtain ⟨k, hk, rfl, hb⟩ := hrel
    by_cases hlt : k < n
    · obtain ⟨ad, rfl, hok, hc⟩ := (HR.out.old hb).at_ hlt
      obtain ⟨ad', rfl, hok', hc'⟩ := (HR'.out.old hb).at_ hlt
      obtain ⟨f, hf⟩ : ∃ f, l.getD k dz = f := ⟨_, rfl⟩
      rw [hf] at hc hc'
      have hkn : (k : Int) < (n : Int) := by omega
      have hk0 : (0 : Int) ≤ (k : Int) := by omega
      have ne := fun W => neq_id f f W
      rw [beq_self_eq_true] at ne
      rw [Nat.mul_comm 32 k] at hc hc'
      have HC := Lib.hid hc
      have HC' := Lib.hid hc'
      have HB := Lib.hid hb
      have NE := Lib.hid ne
      clear hf hc hc' hb ne hok hok'
      go_wp2
      refine wp_region_still_lit (by kernel_rfl) (by kernel_rfl) ?_
      repeat still_step
      refine wpStill_load_at rfl 23 _ rfl (ad.add (k * 32)) rfl 32 (fun i => bv (f i)) 5 HC.out Tryd.underlying23 (by kernel_rfl) ?_
      repeat still_step
      refine wpStill_load_at rfl 23 _ rfl (ad'.add (k * 32)) rfl 32 (fun i => bv (f i)) 5 HC'.out Tryd.underlying23 (by kernel_rfl) ?_
      refine wpStill_bin rfl .neq 23 _ _ _ rfl _ _ (.bool false) rfl rfl (by kernel_rfl) (NE.out _) ?_
      refine wpStill_nil ?_
      change Exit.then _ _ Exit.normal _ wr.drew
      go_wp2
      go_roundw
      case rel => exact ⟨k + 1, by omega, by go_num, HB.out.drew⟩
      case measure => simp [intOf]; omega
    · obtain rfl : k = n := by omega
      have HB := Lib.hid hb
      clear hb
      go_wp2
      go_ret
      exact ⟨rfl, HB.out⟩
end Go.Proofs.YtggffadildfnlaaDoor
