/-
  tree.Root; that 'grows' holds: the sum of two leaves, by the kernel. In whatever memory in which the tables lie. No condition.
  That 'grows' holds, in whatever memory in which the tables lie. No condition.
  cut: not more than so many; the reference's Same, of like lists. No condition.
-/
import Derived.Test.YtlnapnbccojohaaDoorTreeFn
import Derived.Test.YtlnapnbccojohaaDoorKSha
import Derived.Great.Walk
import Derived.Deep.DeepMust
namespace Go.Proofs.YtlnapnbccojohaaDoor
open Go Go.RowKit Go.Shelf TreeM

theorem neq_id (f g : D) (w : World) : (binOp .neq 23 (.agg (arr 32 fun i => bv (f i))) (.agg (arr 32 fun i => bv (g i)))).run Tryd.prog w = .ok (.bool (!(id32 f == id32 g))) w := by
  have h := eql_id f g w
  generalize (id32 f == id32 g) = β at h ⊢
  generalize (arr 32 fun i => bv (f i)) = x at h ⊢
  generalize (arr 32 fun i => bv (g i)) = y at h ⊢
  rw [run_eql_struct] at h
  rw [run_neq_struct]
  generalize (Op.equalIn 10000 23 (.agg x) (.agg y)).run Tryd.prog w = r at h ⊢
  cases r with
  | ok b w' =>
    simp only [Result.andThen_ok, Result.ok.injEq, Value.bool.injEq] at h
    obtain ⟨rfl, rfl⟩ := h
    rfl
  | halt _ _ => cases h
set_option maxRecDepth 100000 in
set_option maxHeartbeats 2000000 in
theorem troot_any (v : Value) (l : List D) (w : World) (hT : Tables w) (hr : RdI w (fun b => b < w.heap.size) v l) (hn : l.length ≤ 1099511627776) :
    Calls Tryd.prog 22 #[v] w fun e w' => e = .returned (.agg (arr 32 fun i => bv (mth l i))) ∧ Below w.heap.size w w' := by
  obtain ⟨A, c, rfl, _⟩ := id hr
  have hb0 : Below w.heap.size w (w.alloc (.cells #[.int .u8 0, .int .u8 0, .int .u8 0, .int .u8 0, .int .u8 0, .int .u8 0, .int .u8 0, .int .u8 0, .int .u8 0, .int .u8 0, .int .u8 0, .int .u8 0, .int .u8 0, .int .u8 0, .int .u8 0, .int .u8 0, .int .u8 0, .int .u8 0, .int .u8 0, .int .u8 0, .int .u8 0, .int .u8 0, .int .u8 0, .int .u8 0, .int .u8 0, .int .u8 0, .int .u8 0, .int .u8 0, .int .u8 0, .int .u8 0, .int .u8 0, .int .u8 0] 23)) := (Below.refl _ _).alloc (Nat.le_refl _) _
  have hS0 : Blk (w.alloc (.cells #[.int .u8 0, .int .u8 0, .int .u8 0, .int .u8 0, .int .u8 0, .int .u8 0, .int .u8 0, .int .u8 0, .int .u8 0, .int .u8 0, .int .u8 0, .int .u8 0, .int .u8 0, .int .u8 0, .int .u8 0, .int .u8 0, .int .u8 0, .int .u8 0, .int .u8 0, .int .u8 0, .int .u8 0, .int .u8 0, .int .u8 0, .int .u8 0, .int .u8 0, .int .u8 0, .int .u8 0, .int .u8 0, .int .u8 0, .int .u8 0, .int .u8 0, .int .u8 0] 23)) w.heap.size 23 #[.int .u8 0, .int .u8 0, .int .u8 0, .int .u8 0, .int .u8 0, .int .u8 0, .int .u8 0, .int .u8 0, .int .u8 0, .int .u8 0, .int .u8 0, .int .u8 0, .int .u8 0, .int .u8 0, .int .u8 0, .int .u8 0, .int .u8 0, .int .u8 0, .int .u8 0, .int .u8 0, .int .u8 0, .int .u8 0, .int .u8 0, .int .u8 0, .int .u8 0, .int .u8 0, .int .u8 0, .int .u8 0, .int .u8 0, .int .u8 0, .int .u8 0, .int .u8 0] := Blk.new _ _ _
  have HOF := Lib.hid (treeOf_any _ l _ (hT.below hb0) (hr.below hb0) hn)
  have HRT := Lib.hid fun g Z W hb h => callsIn_wide.1 (treeRoot_any Z g l W (hT.below hb) h)
  have HB0 := Lib.hid hb0
  have HS0 := Lib.hid hS0
  generalize l.length = n at *
  generalize mth l = R at *
  clear hb0 hS0 hr hT
  go_enter Tryd.func22, Tryd.ntmps22
  go_wp2_with (first
    | (go_at_call 47; refine HOF.out.mono ?_; rintro e W1 ⟨g, Z, rfl, ht, hb1, _⟩; have HB1 := Lib.hid (HB0.out.trans (hb1.mono HB0.out.size)); have HS1 := Lib.hid (HS0.out.below hb1 HS0.out.lt); have HRT1 := Lib.hid (HRT.out g Z W1 HB1.out ht); clear ht hb1)
    | (go_at_call 48; refine HRT1.out.mono ?_; rintro e W2 ⟨rfl, hb2⟩; have HB2 := Lib.hid (HB1.out.trans (hb2.mono HB1.out.size)); have HS2 := Lib.hid (HS1.out.below hb2 HS1.out.lt); clear hb2)
    | (refine wpList_store_arrW rfl 23 _ _ rfl w.heap.size (arr 32 fun i => bv (R i)) rfl rfl 23 _ HS2.out (by rw [arr_size]; kernel_rfl) (by rw [arr_size]; rfl) (arr_all_bv _ _) ?_; intro W3 hS3 hz3 hb3 hk3))
  refine bodyPost_ret (results_cell_row (p := 2) (ty := 23) rfl _ _ w.heap.size 23 _ (0, 0) _ rfl hS3 Tryd.underlying23 rfl (by rw [arr_size]; kernel_rfl)) rfl ?_
  exact ⟨rfl, HB2.out.trans hb3⟩

/-! ### The guard -/
def d1 : D := fun i => if i = 0 then 1 else 0
def d2 : D := fun i => if i = 0 then 2 else 0
end Go.Proofs.YtlnapnbccojohaaDoor
namespace Go.Proofs.YtlnapnbccojohaaDoor
open Go Go.RowKit Go.Shelf TreeM

section
variable {P : Program} {ops : Array Oper} {rest : List Oper} {o : Oper} {a : Act} {w : World} {Q : Exit → Act → World → Prop}
/-- An array or struct literal, its cells said. -/
theorem wpList_buildTo (hw : Region.wanted o (yielded ops a.tmps) = true) (t : TypeId) (parts : Array (Nat × Operand)) (ho : o.op = .build t parts) (cells : Array Value)
    (hf : P.built t (parts.map fun (i, x) => (i, a.eval x)).toList = some cells)
    (h : wpList P ops Q rest (a.put o.dst (.agg cells)) w) : wpList P ops Q (o :: rest) a w :=
  wpList_step fun K hK => by
    rw [if_pos hw]
    refine wp_build t parts ho (by rw [hf]; rfl) (hK _ _ ?_)
    rw [hf]
    exact h
end
end Go.Proofs.YtlnapnbccojohaaDoor
namespace Go.Proofs.YtlnapnbccojohaaDoor
open Go Go.RowKit Go.Shelf TreeM

section
variable {P : Program} {ops : Array Oper} {w : World}
theorem wpStill_load_at {Q : Act → Prop} {a : Act} {o : Oper} {rest : List Oper} (hgd : o.guard = none) (ty : TypeId) (x : Operand) (ho : o.op = .load ty x) (ad : Addr) (hx : a.eval x = .pointer (some ad)) (N : Nat) (f : Nat → Value) (e : TypeId)
    (hg : ∀ i, i < N → w.cell? (ad.add i) = some (f i)) (hu : P.underlying ty = some (.array N e)) (hi : (P.info? ty).map (·.size) = some N) (h : wpStill P ops w Q rest (a.put o.dst (.agg (arr N f)))) : wpStill P ops w Q (o :: rest) a := by
  refine wpStill_step fun K hK => ?_
  rw [if_pos (by simp [Region.wanted, hgd])]
  unfold Oper.still
  have hl := run_loadAt_cells (P := P) ty ad N f e w hg hu hi
  have e : (execOp a.eval o).run P w = .ok (.value (.agg (arr N f))) w := by
    simp only [execOp, ho, hx, Sem.run_bind, hl, Result.andThen_ok, Sem.run_pure]
  rw [e, Oper.stillUpon_value]
  exact hK _ h
theorem wpStill_bin {Q : Act → Prop} {a : Act} {o : Oper} {rest : List Oper} (hgd : o.guard = none) (op : BinOp) (t rt : TypeId) (x y : Operand) (ho : o.op = .binOp op t x y rt) (vx vy v : Value) (hx : a.eval x = vx) (hy : a.eval y = vy)
    (hq : (eqGuard op t x y vx vy).run P w = .ok () w) (hv : (binOp op t vx vy).run P w = .ok v w) (h : wpStill P ops w Q rest (a.put o.dst v)) : wpStill P ops w Q (o :: rest) a := by
  refine wpStill_step fun K hK => ?_
  rw [if_pos (by simp [Region.wanted, hgd])]
  unfold Oper.still
  subst hx hy
  have e : (execOp a.eval o).run P w = .ok (.value v) w := by
    simp [execOp, ho, hq, hv]
  rw [e, Oper.stillUpon_value]
  exact hK _ h
end
set_option maxRecDepth 100000 in
set_option maxHeartbeats 1000000 in
theorem same_true (v v' : Value) (l : List D) (w : World) (hr : RdI w (fun b => b < w.heap.size) v l) (hr' : RdI w (fun b => b < w.heap.size) v' l) (hl : l.length ≤ 1000000) :
    Calls Tryd.prog 27 #[v, v'] w fun e w' => e = .returned (.bool true) ∧ Below w.heap.size w w' := by
  obtain ⟨A, c, rfl, _⟩ := id hr
  obtain ⟨A', c', rfl, _⟩ := id hr'
  obtain ⟨n, hn⟩ : ∃ n, l.length = n := ⟨_, rfl⟩
  rw [hn] at hr hr' hl ⊢
  have HR := Lib.hid hr
  have HR' := Lib.hid hr'
  clear hr hr'
  go_enter Tryd.func27, Tryd.ntmps27
  go_wp2
  go_loopw [5] (fun i wr => ∃ k : Nat, k ≤ n ∧ i = .int .i64 (k : Int) ∧ Below w.heap.size w wr) (fun i _ => n - (intOf i).toNat)
  case atStart => exact ⟨0, by omega, rfl, Below.refl _ _⟩
  case round =>
    obtain ⟨k, hk, rfl, hb⟩ := hrel
    by_cases hlt : k < n
    · obtain ⟨ad, rfl, hok, hc⟩ := (HR.out.old hb).at_ hlt
      obtain ⟨ad', rfl, hok', hc'⟩ := (HR'.out.old hb).at_ hlt
      obtain ⟨f, hf⟩ : ∃ f, l.getD k dz = f := ⟨_, rfl⟩
      rw [hf] at hc hc'
      have hkn : (k : Int) < (n : Int) := by omega
      have hk0 : (0 : Int) ≤ (k : Int) := by omega
      have ne := fun W => neq_id f f W
      rw [beq_self_eq_true] at ne
      rw [Nat.mul_comm 32 k] at hc hc'
      have HC := Lib.hid hc
      have HC' := Lib.hid hc'
      have HB := Lib.hid hb
      have NE := Lib.hid ne
      clear hf hc hc' hb ne hok hok'
      go_wp2
      refine wp_region_still_lit (by kernel_rfl) (by kernel_rfl) ?_
      repeat still_step
      refine wpStill_load_at rfl 23 _ rfl (ad.add (k * 32)) rfl 32 (fun i => bv (f i)) 5 HC.out Tryd.underlying23 (by kernel_rfl) ?_
      repeat still_step
      refine wpStill_load_at rfl 23 _ rfl (ad'.add (k * 32)) rfl 32 (fun i => bv (f i)) 5 HC'.out Tryd.underlying23 (by kernel_rfl) ?_
      refine wpStill_bin rfl .neq 23 _ _ _ rfl _ _ (.bool false) rfl rfl (by kernel_rfl) (NE.out _) ?_
      refine wpStill_nil ?_
      change Exit.then _ _ Exit.normal _ wr.drew
      go_wp2
      go_roundw
      case rel => exact ⟨k + 1, by omega, by go_num, HB.out.drew⟩
      case measure => simp [intOf]; omega
    · obtain rfl : k = n := by omega
      have HB := Lib.hid hb
      clear hb
      go_wp2
      go_ret
      exact ⟨rfl, HB.out⟩
end Go.Proofs.YtlnapnbccojohaaDoor
