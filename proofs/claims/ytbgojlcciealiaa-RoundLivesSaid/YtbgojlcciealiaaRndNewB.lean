/-
  One.s way to agreement: New. No condition.
-/
import Derived.Test.YtbgojlcciealiaaRndNew
import Derived.Great.Ranges
import Derived.Great.BuildSlice
namespace Go.Proofs.Ytbgojlcciealiaa
open Go Go.RowKit Go.Maps

theorem wpList_moveTo {P : Program} {ops : Array Oper} {rest : List Oper} {o : Oper} {a : Act} {w : World} {Q : Exit → Act → World → Prop} (hg : o.guard = none) (x : Operand) (ho : o.op = .move x)
    (h : wpList P ops Q rest (a.put o.dst (a.eval x)) w) : wpList P ops Q (o :: rest) a w := by
  refine wpList_plain hg fun K hK => ?_
  unfold Oper.wp execOp
  simp only [ho, Sem.run_pure]
  exact hK _ _ h
set_option maxRecDepth 100000 in
set_option maxHeartbeats 8000000 in
theorem newR_none (v me hh : Int) (W : World) (hf : faults v < 0) : Calls Try.prog 33 #[.int .i64 v, .int .i64 me, .int .i64 hh] W fun e w' => e = .returned (.tuple #[.pointer none, .int .i64 1]) ∧ Below W.heap.size W w' := by
  have HN := Lib.hid (new_none v W hf)
  clear hf
  go_enter Try.func33, Try.ntmps33
  go_wp2_with (go_at_call 16; refine HN.out.mono ?_; rintro e W2 ⟨rfl, h1⟩; obtain rfl := h1.symm)
  go_ret2
  exact ⟨rfl, Below.refl _ _⟩
theorem faults_some {v : Int} (h : 0 ≤ faults v) : v = 1 ∨ v = 4 ∨ v = 7 := by
  unfold faults at h
  repeat' split at h
  all_goals omega
set_option maxRecDepth 100000 in
set_option maxHeartbeats 8000000 in
theorem newR_good (v me hh : Int) (W : World) (hf : 0 ≤ faults v) (hm : ¬ me < 0) (hm2 : ¬ v ≤ me) (hm3 : ¬ hh < 0) (hw : wfi hh) : Calls Try.prog 33 #[.int .i64 v, .int .i64 me, .int .i64 hh] W fun e w' => ∃ B C M, e = .returned (.tuple #[.pointer (some ⟨B, 0, none⟩), .int .i64 0]) ∧ RoundAt w' B C M 0 (.slice none 0 0) (newS v.toNat me hh) ∧ Below W.heap.size W w' ∧ W.heap.size ≤ B ∧ W.heap.size ≤ C ∧ W.heap.size ≤ M := by
  have hv := faults_some hf
  obtain ⟨N, rfl⟩ : ∃ N : Nat, v = (N : Int) := ⟨v.toNat, by omega⟩
  rw [Int.toNat_natCast]
  have HOK := Lib.hid (new_ok (v := N) (me := me) (hh := hh) (by omega) hf (by omega) ⟨by omega, hw⟩)
  have HN := Lib.hid (new_some N W hf)
  clear hf hv hw
  go_enter Try.func33, Try.ntmps33
  go_upto_region 2 with (go_at_call 16; refine HN.out.mono ?_; rintro e W2 ⟨rfl, hc2, hb2⟩; have HC2 := Lib.hid hc2; have HB2 := Lib.hid hb2; clear hc2 hb2)
  go_upto_region 4 with fail
  refine wp_region_list ?_
  refine wpList_moveTo rfl _ rfl ?_
  refine wpList_moveTo rfl _ rfl ?_
  refine wpList_moveTo rfl _ rfl ?_
  refine wpList_moveTo rfl _ rfl ?_
  try simp only [Act.put, nz1, nz2, nz3]
  refine Go.wpList_buildTo rfl 132 _ rfl (some 34) rfl (arr 549 (rdF (newS N me hh) (.slice none 0 0) (.pointer (some ⟨W.heap.size + 1, 0, none⟩)))) ((congrArg (fun l => Try.prog.built 132 l) (show _ = [(0, .int .i64 (N : Int)), (1, .int .i64 me), (2, .int .i64 hh), (3, .int .i64 (-1)), (4, .int .i64 3), (11, .pointer (some ⟨W.heap.size + 1, 0, none⟩))] from by kernel_rfl)).trans (new_built N me hh (W.heap.size + 1))) ?_
  refine Great.wpList_boxTo rfl 132 _ rfl (some 35) rfl W2.heap.size rfl (arr 549 (rdF (newS N me hh) (.slice none 0 0) (.pointer (some ⟨W.heap.size + 1, 0, none⟩)))) rfl ?_
  obtain ⟨W3, hW3⟩ : ∃ W3, W2.alloc (.cells (arr 549 (rdF (newS N me hh) (.slice none 0 0) (.pointer (some ⟨W.heap.size + 1, 0, none⟩)))) 132) = W3 := ⟨_, rfl⟩
  rw [hW3]
  have hb3 : Below W2.heap.size W2 W3 := by rw [← hW3]; exact (Below.refl _ _).alloc (Nat.le_refl _) _
  have hk3 : Blk W3 W2.heap.size 132 (arr 549 (rdF (newS N me hh) (.slice none 0 0) (.pointer (some ⟨W.heap.size + 1, 0, none⟩)))) := by rw [← hW3]; exact Blk.new _ _ _
  have HR3 : Hid (RoundAt W3 W2.heap.size (W.heap.size + 1) W.heap.size 0 (.slice none 0 0) (newS N me hh)) := Lib.hid ⟨hk3, HC2.out.below hb3, World.ownsRow_nil _ _ _ _, HOK.out⟩
  have HB3 := Lib.hid hb3
  clear hW3 hb3 hk3
  generalize hX : arr 549 _ = X
  clear hX
  go_wp2_with fail
  go_ret2
  exact ⟨_, _, _, rfl, HR3.out, HB2.out.trans (HB3.out.mono HB2.out.size), HB2.out.size, Nat.le_succ _, Nat.le_refl _⟩
end Go.Proofs.Ytbgojlcciealiaa
