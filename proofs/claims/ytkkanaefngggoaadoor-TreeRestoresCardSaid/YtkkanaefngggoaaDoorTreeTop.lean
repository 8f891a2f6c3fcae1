/-
  tree.Root; that 'grows' holds: the sum of two leaves, by the kernel. In whatever memory in which the tables lie. No condition.
-/
import Derived.Test.YtkkanaefngggoaaDoorTreeRoot
import Derived.Test.YtkkanaefngggoaaDoorKSha
namespace Go.Proofs.YtkkanaefngggoaaDoor
open Go Go.RowKit Go.Shelf TreeM

theorem neq_id (f g : D) (w : World) : (binOp .neq 30 (.agg (arr 32 fun i => bv (f i))) (.agg (arr 32 fun i => bv (g i)))).run Tryd.prog w = .ok (.bool (!(id32 f == id32 g))) w := by
  have h := eql_id f g w
  generalize (id32 f == id32 g) = β at h ⊢
  generalize (arr 32 fun i => bv (f i)) = x at h ⊢
  generalize (arr 32 fun i => bv (g i)) = y at h ⊢
  rw [run_eql_struct] at h
  rw [run_neq_struct]
  generalize (Op.equalIn 10000 30 (.agg x) (.agg y)).run Tryd.prog w = r at h ⊢
  cases r with
  | ok b w' =>
    simp only [Result.andThen_ok, Result.ok.injEq, Value.bool.injEq] at h
    obtain ⟨rfl, rfl⟩ := h
    rfl
  | halt _ _ => cases h
set_option maxRecDepth 100000 in
set_option maxHeartbeats 2000000 in
theorem troot_any (v : Value) (l : List D) (w : World) (hT : Tables w) (hr : RdI w (fun b => b < w.heap.size) v l) (hn : l.length ≤ 1099511627776) :
    Calls Tryd.prog 27 #[v] w fun e w' => e = .returned (.agg (arr 32 fun i => bv (mth l i))) ∧ Below w.heap.size w w' := by
  obtain ⟨A, c, rfl, _⟩ := id hr
  have hb0 : Below w.heap.size w (w.alloc (.cells #[.int .u8 0, .int .u8 0, .int .u8 0, .int .u8 0, .int .u8 0, .int .u8 0, .int .u8 0, .int .u8 0, .int .u8 0, .int .u8 0, .int .u8 0, .int .u8 0, .int .u8 0, .int .u8 0, .int .u8 0, .int .u8 0, .int .u8 0, .int .u8 0, .int .u8 0, .int .u8 0, .int .u8 0, .int .u8 0, .int .u8 0, .int .u8 0, .int .u8 0, .int .u8 0, .int .u8 0, .int .u8 0, .int .u8 0, .int .u8 0, .int .u8 0, .int .u8 0] 30)) := (Below.refl _ _).alloc (Nat.le_refl _) _
  have hS0 : Blk (w.alloc (.cells #[.int .u8 0, .int .u8 0, .int .u8 0, .int .u8 0, .int .u8 0, .int .u8 0, .int .u8 0, .int .u8 0, .int .u8 0, .int .u8 0, .int .u8 0, .int .u8 0, .int .u8 0, .int .u8 0, .int .u8 0, .int .u8 0, .int .u8 0, .int .u8 0, .int .u8 0, .int .u8 0, .int .u8 0, .int .u8 0, .int .u8 0, .int .u8 0, .int .u8 0, .int .u8 0, .int .u8 0, .int .u8 0, .int .u8 0, .int .u8 0, .int .u8 0, .int .u8 0] 30)) w.heap.size 30 #[.int .u8 0, .int .u8 0, .int .u8 0, .int .u8 0, .int .u8 0, .int .u8 0, .int .u8 0, .int .u8 0, .int .u8 0, .int .u8 0, .int .u8 0, .int .u8 0, .int .u8 0, .int .u8 0, .int .u8 0, .int .u8 0, .int .u8 0, .int .u8 0, .int .u8 0, .int .u8 0, .int .u8 0, .int .u8 0, .int .u8 0, .int .u8 0, .int .u8 0, .int .u8 0, .int .u8 0, .int .u8 0, .int .u8 0, .int .u8 0, .int .u8 0, .int .u8 0] := Blk.new _ _ _
  have HOF := Lib.hid (treeOf_any _ l _ (hT.below hb0) (hr.below hb0) hn)
  have HRT := Lib.hid fun g Z W hb h => callsIn_wide.1 (treeRoot_any Z g l W (hT.below hb) h)
  have HB0 := Lib.hid hb0
  have HS0 := Lib.hid hS0
  generalize l.length = n at *
  generalize mth l = R at *
  clear hb0 hS0 hr hT
  go_enter Tryd.func27, Tryd.ntmps27
  go_wp2_with (first
    | (go_at_call 19; refine HOF.out.mono ?_; rintro e W1 ⟨g, Z, rfl, ht, hb1, _⟩; have HB1 := Lib.hid (HB0.out.trans (hb1.mono HB0.out.size)); have HS1 := Lib.hid (HS0.out.below hb1 HS0.out.lt); have HRT1 := Lib.hid (HRT.out g Z W1 HB1.out ht); clear ht hb1)
    | (go_at_call 21; refine HRT1.out.mono ?_; rintro e W2 ⟨rfl, hb2⟩; have HB2 := Lib.hid (HB1.out.trans (hb2.mono HB1.out.size)); have HS2 := Lib.hid (HS1.out.below hb2 HS1.out.lt); clear hb2)
    | (refine wpList_store_arrW rfl 30 _ _ rfl w.heap.size (arr 32 fun i => bv (R i)) rfl rfl 30 _ HS2.out (by rw [arr_size]; kernel_rfl) (by rw [arr_size]; rfl) (arr_all_bv _ _) ?_; intro W3 hS3 hz3 hb3 hk3))
  refine bodyPost_ret (results_cell_row (p := 2) (ty := 30) rfl _ _ w.heap.size 30 _ (0, 0) _ rfl hS3 Tryd.underlying30 rfl (by rw [arr_size]; kernel_rfl)) rfl ?_
  exact ⟨rfl, HB2.out.trans hb3⟩

/-! ### The guard -/
def d1 : D := fun i => if i = 0 then 1 else 0
def d2 : D := fun i => if i = 0 then 2 else 0
theorem mth_two (a b : D) : mth [a, b] = node a b := by
  rw [mth_halves (by simp)]
  have h : half [a, b].length = 1 := by show half 2 = 1; decide
  rw [h]
  simp [mth_one]
theorem grow_sum : KSha.sha [1, 1, 0, 0, 0, 0, 0, 0, 0, 0, 0, 0, 0, 0, 0, 0, 0, 0, 0, 0, 0, 0, 0, 0, 0, 0, 0, 0, 0, 0, 0, 0, 0, 2, 0, 0, 0, 0, 0, 0, 0, 0, 0, 0, 0, 0, 0, 0, 0, 0, 0, 0, 0, 0, 0, 0, 0, 0, 0, 0, 0, 0, 0, 0, 0] 65 = [2135979342, 3817840691, 401432574, 1328208148, 2156220330, 4183132268, 3615552372, 4200956662] := by kernel_rfl
theorem grow_neq : (id32 (node d1 d2) == id32 (fun _ => 0)) = false := by
  have h := sha_known [1, 1, 0, 0, 0, 0, 0, 0, 0, 0, 0, 0, 0, 0, 0, 0, 0, 0, 0, 0, 0, 0, 0, 0, 0, 0, 0, 0, 0, 0, 0, 0, 0, 2, 0, 0, 0, 0, 0, 0, 0, 0, 0, 0, 0, 0, 0, 0, 0, 0, 0, 0, 0, 0, 0, 0, 0, 0, 0, 0, 0, 0, 0, 0, 0] 65 [2135979342, 3817840691, 401432574, 1328208148, 2156220330, 4183132268, 3615552372, 4200956662] rfl (by omega) (by decide) grow_sum 0 (by omega)
  have e : node d1 d2 0 = 127 := by
    unfold node
    rw [show (1 :: (idl d1 ++ idl d2) : List UInt8) = ([1, 1, 0, 0, 0, 0, 0, 0, 0, 0, 0, 0, 0, 0, 0, 0, 0, 0, 0, 0, 0, 0, 0, 0, 0, 0, 0, 0, 0, 0, 0, 0, 0, 2, 0, 0, 0, 0, 0, 0, 0, 0, 0, 0, 0, 0, 0, 0, 0, 0, 0, 0, 0, 0, 0, 0, 0, 0, 0, 0, 0, 0, 0, 0, 0] : List Nat).map UInt8.ofNat from by decide, h]
    decide
  refine beq_eq_false_iff_ne.2 fun hq => ?_
  have := congrArg (fun l : List UInt8 => l[0]?) hq
  simp [id32, e] at this
end Go.Proofs.YtkkanaefngggoaaDoor
