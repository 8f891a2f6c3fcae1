/-
  That 'grows' holds, in whatever memory in which the tables lie. No condition.
-/
import Derived.Test.YtkkanaefngggoaaDoorTreeTop
import Derived.Great.Walk
import Derived.Deep.DeepMust
namespace Go.Proofs.YtkkanaefngggoaaDoor
open Go Go.RowKit Go.Shelf TreeM

section
variable {P : Program} {ops : Array Oper} {rest : List Oper} {o : Oper} {a : Act} {w : World} {Q : Exit → Act → World → Prop}
/-- An array or struct literal, its cells said. -/
theorem wpList_buildTo (hw : Region.wanted o (yielded ops a.tmps) = true) (t : TypeId) (parts : Array (Nat × Operand)) (ho : o.op = .build t parts) (cells : Array Value)
    (hf : P.built t (parts.map fun (i, x) => (i, a.eval x)).toList = some cells)
    (h : wpList P ops Q rest (a.put o.dst (.agg cells)) w) : wpList P ops Q (o :: rest) a w :=
  wpList_step fun K hK => by
    rw [if_pos hw]
    refine wp_build t parts ho (by rw [hf]; rfl) (hK _ _ ?_)
    rw [hf]
    exact h
/-- A small slice literal, its cells said. -/
theorem wpList_buildSliceW (hg : o.guard = none) (t e : TypeId) (len : Nat) (parts : Array (Nat × Operand)) (ho : o.op = .buildSlice t len parts) (hu : P.underlying t = some (.slice e)) (cells : Array Value)
    (hf : P.builtSlice e len (parts.map fun (i, x) => (i, a.eval x)).toList = some cells)
    (h : wpList P ops Q rest (a.put o.dst (.slice (some ⟨w.heap.size, 0, none⟩) len len)) (w.alloc (.cells cells e))) : wpList P ops Q (o :: rest) a w :=
  Great.wpList_buildSliceTo hg t e len parts ho _ rfl _ rfl hu cells hf h
end
/-- A row of IDs that has just been laid. -/
theorem rdI_new (w : World) (l : List D) (n : Nat) (hn : l.length = n) (hm : n ≤ 4398046511104) : RdI (w.alloc (.cells (idCells l).toArray 30)) (fun b => b = w.heap.size) (.slice (some ⟨w.heap.size, 0, none⟩) n n) l := by
  subst hn
  refine ⟨_, _, rfl, Nat.le_refl _, hm, fun h0 => ⟨⟨w.heap.size, 0, none⟩, rfl, rfl, fun k hk i hi => ?_⟩⟩
  rw [add_zero_block, (Blk.new w 30 (idCells l).toArray).cell, List.getElem?_toArray, idCells_at l k i hk hi]
set_option maxRecDepth 100000 in
set_option maxHeartbeats 2000000 in
theorem grows_any (w : World) (hT : Tables w) :
    Calls Tryd.prog 17 #[] w fun e w' => e = .returned (.bool true) ∧ Below w.heap.size w w' := by
  have hb0 : Below w.heap.size w (w.alloc (.cells (idCells [d1, d2]).toArray 30)) := (Below.refl _ _).alloc (Nat.le_refl _) _
  have HOF : Hid (Calls Tryd.prog 19 #[.slice (some ⟨w.heap.size, 0, none⟩) 2 2] (w.alloc (.cells (idCells [d1, d2]).toArray 30)) fun e w' => ∃ g Z, e = .returned (.pointer (some ⟨g, 0, none⟩)) ∧ TreeAt w' Z g [d1, d2] ∧ Below w.heap.size w w') := Lib.hid ((treeOf_any _ [d1, d2] _ (hT.below hb0) ((rdI_new w [d1, d2] 2 rfl (by omega)).mono fun b hb => by rw [hb]; simp) (by simp)).mono (by
    rintro e w' ⟨g, Z, h1, h2, h3, _⟩
    exact ⟨g, Z, h1, h2, hb0.trans (h3.mono hb0.size)⟩))
  have HRT : Hid (∀ g Z W, Below w.heap.size w W → TreeAt W Z g [d1, d2] → Calls Tryd.prog 21 #[.pointer (some ⟨g, 0, none⟩)] W fun e w' => e = .returned (.agg (arr 32 fun i => bv (node d1 d2 i))) ∧ Below W.heap.size W w') := Lib.hid fun g Z W hb h => by
    have := callsIn_wide.1 (treeRoot_any Z g [d1, d2] W (hT.below hb) h)
    rw [mth_two] at this
    exact this
  have HSZ := Lib.hid fun g Z W h => treeSize_any Z g [d1, d2] W h
  have HND : Hid (∀ W, Below w.heap.size w W → Calls Tryd.prog 33 #[.agg (arr 32 fun i => bv (d1 i)), .agg (arr 32 fun i => bv (d2 i))] W fun e w' => e = .returned (.agg (arr 32 fun i => bv (node d1 d2 i))) ∧ Below W.heap.size W w') := Lib.hid fun W hb => node_any d1 d2 W (hT.below hb)
  have HTR : Hid (∀ W, Below w.heap.size w W → Calls Tryd.prog 27 #[.slice none 0 0] W fun e w' => e = .returned (.agg (arr 32 fun i => bv (sha [] i))) ∧ Below W.heap.size W w') := Lib.hid fun W hb => by
    have := troot_any (.slice none 0 0) [] W (hT.below hb) (RdI.nil _ _ _ _) (by simp)
    rw [mth_nil] at this
    exact this
  have HSO : Hid (∀ W, Below w.heap.size w W → Calls Tryd.prog 43 #[.slice none 0 0] W fun e w' => e = .returned (.agg (arr 32 fun i => bv (sha [] i))) ∧ Below W.heap.size W w') := Lib.hid fun W hb => callsIn_wide.1 (of_any none 0 [] (by simp) (by simp) W (hT.below hb) (fun k hk => by simp at hk))
  have HB0 := Lib.hid hb0
  have hB1 : Tryd.prog.built 30 [(0, .int .u8 1)] = some (arr 32 fun i => bv (d1 i)) := by kernel_rfl
  have hB2 : Tryd.prog.built 30 [(0, .int .u8 2)] = some (arr 32 fun i => bv (d2 i)) := by kernel_rfl
  have hBZ : Tryd.prog.built 30 [] = some (arr 32 fun i => bv ((fun _ => 0 : D) i)) := by kernel_rfl
  have hBS : Tryd.prog.builtSlice 30 2 [(0, .agg (arr 32 fun i => bv (d1 i))), (1, .agg (arr 32 fun i => bv (d2 i)))] = some (idCells [d1, d2]).toArray := by kernel_rfl
  have eq1 := eql_id (node d1 d2) (node d1 d2)
  have eq2 := eql_id (sha []) (sha [])
  have ne1 := neq_id (node d1 d2) (fun _ => 0)
  rw [grow_neq] at ne1
  rw [beq_self_eq_true] at eq1 eq2
  clear hb0 hT
  generalize (arr 32 fun i => bv ((fun _ => 0 : D) i)) = zr at *
  generalize (arr 32 fun i => bv (d1 i)) = a1 at *
  generalize (arr 32 fun i => bv (d2 i)) = a2 at *
  generalize (arr 32 fun i => bv (node d1 d2 i)) = nd at *
  generalize (arr 32 fun i => bv (sha [] i)) = e0 at *
  generalize (idCells [d1, d2]).toArray = cs at *
  go_enter Tryd.func17, Tryd.ntmps17
  go_wp2_with (first
    | (guard_target = wpList _ _ _ (Oper.mk _ (.build _ #[(0, .const (.int .u8 1))]) _ _ _ _ :: _) _ _; go_must (refine wpList_buildTo (by rfl) 30 #[(0, .const (.int .u8 1))] rfl a1 (by simp only [List.map_toArray, List.map_cons, List.map_nil]; exact hB1) ?_))
    | (guard_target = wpList _ _ _ (Oper.mk _ (.build _ #[(0, .const (.int .u8 2))]) _ _ _ _ :: _) _ _; go_must (refine wpList_buildTo (by rfl) 30 #[(0, .const (.int .u8 2))] rfl a2 (by simp only [List.map_toArray, List.map_cons, List.map_nil]; exact hB2) ?_))
    | (guard_target = wpList _ _ _ (Oper.mk _ (.build _ #[]) _ _ _ _ :: _) _ _; go_must (refine wpList_buildTo (by rfl) 30 #[] rfl zr (by simp only [List.map_toArray, List.map_nil]; exact hBZ) ?_))
    | (guard_target = wpList _ _ _ (Oper.mk _ (.buildSlice _ _ _) _ _ _ _ :: _) _ _; go_must (refine wpList_buildSliceW rfl 22 30 2 _ rfl Tryd.underlying22 cs (by simp only [List.map_toArray, List.map_cons, List.map_nil]; exact hBS) ?_))
    | (go_at_call 19; refine HOF.out.mono ?_; rintro e W1 ⟨g, Z, rfl, ht, hb1⟩; have HT1 := Lib.hid ht; have HB1 := Lib.hid hb1; clear ht hb1)
    | (go_at_call 23; refine (HSZ.out g Z W1 HT1.out).mono ?_; rintro e W2 ⟨rfl, rfl⟩)
    | (go_at_call 21; refine (HRT.out g Z _ HB1.out HT1.out).mono ?_; rintro e W3 ⟨rfl, hb3⟩; have HB3 := Lib.hid (HB1.out.trans (hb3.mono HB1.out.size)); have HT3 := Lib.hid (RangeAt.below HT1.out hb3); clear hb3)
    | (go_at_call 33; refine (HND.out _ HB3.out).mono ?_; rintro e W4 ⟨rfl, hb4⟩; have HB4 := Lib.hid (HB3.out.trans (hb4.mono HB3.out.size)); have HT4 := Lib.hid (RangeAt.below HT3.out hb4); clear hb4)
    | (go_at_call 21; refine (HRT.out g Z _ HB4.out HT4.out).mono ?_; rintro e W5 ⟨rfl, hb5⟩; have HB5 := Lib.hid (HB4.out.trans (hb5.mono HB4.out.size)); clear hb5)
    | (go_at_call 27; refine (HTR.out _ HB5.out).mono ?_; rintro e W6 ⟨rfl, hb6⟩; have HB6 := Lib.hid (HB5.out.trans (hb6.mono HB5.out.size)); clear hb6)
    | (go_at_call 43; refine (HSO.out _ HB6.out).mono ?_; rintro e W7 ⟨rfl, hb7⟩; have HB7 := Lib.hid (HB6.out.trans (hb7.mono HB6.out.size)); clear hb7))
  go_ret
  exact ⟨rfl, HB7.out⟩
end Go.Proofs.YtkkanaefngggoaaDoor
