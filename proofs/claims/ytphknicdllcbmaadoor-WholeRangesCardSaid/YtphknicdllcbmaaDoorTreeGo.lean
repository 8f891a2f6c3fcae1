/-
  tree.Root; that 'grows' holds: the sum of two leaves, by the kernel. In whatever memory in which the tables lie. No condition.
  That 'grows' holds, in whatever memory in which the tables lie. No condition.
  cut: not more than so many; the reference's Same, of like lists. No condition.
-/
import Derived.Test.YtphknicdllcbmaaDoorTreeFn
import Derived.Test.YtphknicdllcbmaaDoorKSha
import Derived.Great.Walk
import Derived.Deep.DeepMust
namespace Go.Proofs.YtphknicdllcbmaaDoor
open Go Go.RowKit Go.Shelf TreeM

theorem neq_id (f g : D) (w : World) : (binOp .neq 30 (.agg (arr 32 fun i => bv (f i))) (.agg (arr 32 fun i => bv (g i)))).run Tryd.prog w = .ok (.bool (!(id32 f == id32 g))) w := by
  have h := eql_id f g w
  generalize (id32 f == id32 g) = β at h ⊢
  generalize (arr 32 fun i => bv (f i)) = x at h ⊢
  generalize (arr 32 fun i => bv (g i)) = y at h ⊢
  rw [run_eql_struct] at h
  rw [run_neq_struct]
  generalize (Op.equalIn 10000 30 (.agg x) (.agg y)).run Tryd.prog w = r at h ⊢
  cases r with
  | ok b w' =>
    simp only [Result.andThen_ok, Result.ok.injEq, Value.bool.injEq] at h
    obtain ⟨rfl, rfl⟩ := h
    rfl
  | halt _ _ => cases h
set_option maxRecDepth 100000 in
set_option maxHeartbeats 2000000 in
theorem troot_any (v : Value) (l : List D) (w : World) (hT : Tables w) (hr : RdI w (fun b => b < w.heap.size) v l) (hn : l.length ≤ 1099511627776) :
    Calls Tryd.prog 20 #[v] w fun e w' => e = .returned (.agg (arr 32 fun i => bv (mth l i))) ∧ Below w.heap.size w w' := by
  obtain ⟨A, c, rfl, _⟩ := id hr
  have hb0 : Below w.heap.size w (w.alloc (.cells #[.int .u8 0, .int .u8 0, .int .u8 0, .int .u8 0, .int .u8 0, .int .u8 0, .int .u8 0, .int .u8 0, .int .u8 0, .int .u8 0, .int .u8 0, .int .u8 0, .int .u8 0, .int .u8 0, .int .u8 0, .int .u8 0, .int .u8 0, .int .u8 0, .int .u8 0, .int .u8 0, .int .u8 0, .int .u8 0, .int .u8 0, .int .u8 0, .int .u8 0, .int .u8 0, .int .u8 0, .int .u8 0, .int .u8 0, .int .u8 0, .int .u8 0, .int .u8 0] 30)) := (Below.refl _ _).alloc (Nat.le_refl _) _
  have hS0 : Blk (w.alloc (.cells #[.int .u8 0, .int .u8 0, .int .u8 0, .int .u8 0, .int .u8 0, .int .u8 0, .int .u8 0, .int .u8 0, .int .u8 0, .int .u8 0, .int .u8 0, .int .u8 0, .int .u8 0, .int .u8 0, .int .u8 0, .int .u8 0, .int .u8 0, .int .u8 0, .int .u8 0, .int .u8 0, .int .u8 0, .int .u8 0, .int .u8 0, .int .u8 0, .int .u8 0, .int .u8 0, .int .u8 0, .int .u8 0, .int .u8 0, .int .u8 0, .int .u8 0, .int .u8 0] 30)) w.heap.size 30 #[.int .u8 0, .int .u8 0, .int .u8 0, .int .u8 0, .int .u8 0, .int .u8 0, .int .u8 0, .int .u8 0, .int .u8 0, .int .u8 0, .int .u8 0, .int .u8 0, .int .u8 0, .int .u8 0, .int .u8 0, .int .u8 0, .int .u8 0, .int .u8 0, .int .u8 0, .int .u8 0, .int .u8 0, .int .u8 0, .int .u8 0, .int .u8 0, .int .u8 0, .int .u8 0, .int .u8 0, .int .u8 0, .int .u8 0, .int .u8 0, .int .u8 0, .int .u8 0] := Blk.new _ _ _
  have HOF := Lib.hid (treeOf_any _ l _ (hT.below hb0) (hr.below hb0) hn)
  have HRT := Lib.hid fun g Z W hb h => callsIn_wide.1 (treeRoot_any Z g l W (hT.below hb) h)
  have HB0 := Lib.hid hb0
  have HS0 := Lib.hid hS0
  generalize l.length = n at *
  generalize mth l = R at *
  clear hb0 hS0 hr hT
  go_enter Tryd.func20, Tryd.ntmps20
  go_wp2_with (first
    | (go_at_call 12; refine HOF.out.mono ?_; rintro e W1 ⟨g, Z, rfl, ht, hb1, _⟩; have HB1 := Lib.hid (HB0.out.trans (hb1.mono HB0.out.size)); have HS1 := Lib.hid (HS0.out.below hb1 HS0.out.lt); have HRT1 := Lib.hid (HRT.out g Z W1 HB1.out ht); clear ht hb1)
    | (go_at_call 14; refine HRT1.out.mono ?_; rintro e W2 ⟨rfl, hb2⟩; have HB2 := Lib.hid (HB1.out.trans (hb2.mono HB1.out.size)); have HS2 := Lib.hid (HS1.out.below hb2 HS1.out.lt); clear hb2)
    | (refine wpList_store_arrW rfl 30 _ _ rfl w.heap.size (arr 32 fun i => bv (R i)) rfl rfl 30 _ HS2.out (by rw [arr_size]; kernel_rfl) (by rw [arr_size]; rfl) (arr_all_bv _ _) ?_; intro W3 hS3 hz3 hb3 hk3))
  refine bodyPost_ret (results_cell_row (p := 2) (ty := 30) rfl _ _ w.heap.size 30 _ (0, 0) _ rfl hS3 Tryd.underlying30 rfl (by rw [arr_size]; kernel_rfl)) rfl ?_
  exact ⟨rfl, HB2.out.trans hb3⟩

/-! ### The guard -/
def d1 : D := fun i => if i = 0 then 1 else 0
def d2 : D := fun i => if i = 0 then 2 else 0
end Go.Proofs.YtphknicdllcbmaaDoor
namespace Go.Proofs.YtphknicdllcbmaaDoor
open Go Go.RowKit Go.Shelf TreeM

section
variable {P : Program} {ops : Array Oper} {rest : List Oper} {o : Oper} {a : Act} {w : World} {Q : Exit → Act → World → Prop}
/-- An array or struct literal, its cells said. -/
theorem wpList_buildTo (hw : Region.wanted o (yielded ops a.tmps) = true) (t : TypeId) (parts : Array (Nat × Operand)) (ho : o.op = .build t parts) (cells : Array Value)
    (hf : P.built t (parts.map fun (i, x) => (i, a.eval x)).toList = some cells)
    (h : wpList P ops Q rest (a.put o.dst (.agg cells)) w) : wpList P ops Q (o :: rest) a w :=
  wpList_step fun K hK => by
    rw [if_pos hw]
    refine wp_build t parts ho (by rw [hf]; rfl) (hK _ _ ?_)
    rw [hf]
    exact h
end
/-- A row of IDs that has just been laid. -/
theorem rdI_new (w : World) (l : List D) (n : Nat) (hn : l.length = n) (hm : n ≤ 4398046511104) : RdI (w.alloc (.cells (idCells l).toArray 30)) (fun b => b = w.heap.size) (.slice (some ⟨w.heap.size, 0, none⟩) n n) l := by
  subst hn
  refine ⟨_, _, rfl, Nat.le_refl _, hm, fun h0 => ⟨⟨w.heap.size, 0, none⟩, rfl, rfl, fun k hk i hi => ?_⟩⟩
  rw [add_zero_block, (Blk.new w 30 (idCells l).toArray).cell, List.getElem?_toArray, idCells_at l k i hk hi]
end Go.Proofs.YtphknicdllcbmaaDoor
namespace Go.Proofs.YtphknicdllcbmaaDoor
open Go Go.RowKit Go.Shelf TreeM

section
variable {P : Program} {ops : Array Oper} {w : World}
end
end Go.Proofs.YtphknicdllcbmaaDoor
