/-
  The count of votes: how many may be faulty, how many are needed, Nil, New, has, Get, Put. No condition.
-/
import Derived.Test.YtpjeildiahklpaaCntKit
import Derived.Test.YtpjeildiahklpaaPackOps
import Derived.Shelf.Abstract
import Derived.Deep.RegionLaw
import Derived.Deep.CutRange
import Derived.BigQuiet
namespace Go.Proofs.Ytpjeildiahklpaa
open Go Go.RowKit Go.Maps

def idC (l : List UInt8) : Array Value := (l.map Extern.Stop.cell).toArray
theorem idC_size {l : List UInt8} (h : IdOk l) : (idC l).size = 32 := by unfold IdOk at h; unfold idC; simpa using h
theorem idC_one (l : List UInt8) : (idC l).all (·.oneCell') = true := by
  unfold idC
  rw [Array.all_eq_true_iff_forall_mem]
  intro x hx
  simp only [List.mem_toArray, List.mem_map] at hx
  obtain ⟨b, _, rfl⟩ := hx
  rfl
theorem id_info : (Try.prog.info? 24).map (·.size) = some 32 := by kernel_rfl
theorem getD_idv (x : Option (List UInt8)) : (x.map idv).getD (idv zeroId) = idv (x.getD zeroId) := by cases x <;> rfl
section
variable {ops : Array Oper} {rest : List Oper} {o : Oper} {a : Act} {w : World} {Q : Exit → Act → World → Prop}
theorem wpList_store_idv (hgd : o.guard = none) (x y : Operand) (ho : o.op = .store 24 x y) (g : Nat) (l : List UInt8) (hx : a.eval x = .pointer (some ⟨g, 0, none⟩)) (hy : a.eval y = idv l) (hl : IdOk l)
    (t : TypeId) (old : Array Value) (hg : Blk w g t old) (hold : old.size = 32)
    (h : ∀ w', Blk w' g t (idC l) → w'.heap.size = w.heap.size → Below g w w' → (∀ b, b ≠ g → w'.heap[b]? = w.heap[b]?) → wpList Try.prog ops Q rest (a.put o.dst undef) w') : wpList Try.prog ops Q (o :: rest) a w :=
  wpList_store_arrW hgd 24 x y ho g (idC l) hx hy t old hg (by rw [idC_size hl]; exact id_info) (by rw [idC_size hl]; exact hold) (idC_one l) h
theorem wpList_load_idv (hgd : o.guard = none) (x : Operand) (ho : o.op = .load 24 x) (g : Nat) (l : List UInt8) (hx : a.eval x = .pointer (some ⟨g, 0, none⟩)) (hl : IdOk l) (t : TypeId) (hg : Blk w g t (idC l))
    (h : wpList Try.prog ops Q rest (a.put o.dst (idv l)) w) : wpList Try.prog ops Q (o :: rest) a w :=
  wpList_load_arr hgd 24 x ho g hx t (idC l) _ hg Try.underlying24 rfl (by rw [idC_size hl]; exact id_info) h
variable {F : Fence} {n : Nat}
theorem wpListIn_store_idv (hF : ∀ f, F.fn f) (hgd : o.guard = none) (x y : Operand) (ho : o.op = .store 24 x y) (g : Nat) (l : List UInt8) (hx : a.eval x = .pointer (some ⟨g, 0, none⟩)) (hy : a.eval y = idv l) (hl : IdOk l)
    (t : TypeId) (old : Array Value) (hg : Blk w g t old) (hold : old.size = 32)
    (h : ∀ w', Blk w' g t (idC l) → w'.heap.size = w.heap.size → Below g w w' → Keep (fun b => b = g) w w' → (∀ b, b ≠ g → w'.heap[b]? = w.heap[b]?) → wpListIn F n Try.prog ops Q rest (a.put o.dst undef) w') : wpListIn F n Try.prog ops Q (o :: rest) a w :=
  wpListIn_store_arrW hF hgd 24 x y ho g (idC l) hx hy t old hg (by rw [idC_size hl]; exact id_info) (by rw [idC_size hl]; exact hold) (idC_one l) h
theorem wpListIn_load_idv (hF : ∀ f, F.fn f) (hgd : o.guard = none) (x : Operand) (ho : o.op = .load 24 x) (g : Nat) (l : List UInt8) (hx : a.eval x = .pointer (some ⟨g, 0, none⟩)) (hl : IdOk l) (t : TypeId) (hg : Blk w g t (idC l))
    (h : wpListIn F n Try.prog ops Q rest (a.put o.dst (idv l)) w) : wpListIn F n Try.prog ops Q (o :: rest) a w :=
  wpListIn_load_arr hF hgd 24 x ho g hx t (idC l) _ hg Try.underlying24 rfl (by rw [idC_size hl]; exact id_info) h
end
theorem results_idv {fn : Func} {p : Tmp} (h : fn.results = #[.cell p 24]) (tmps : Array Value) (w : World) (g : Nat) (t : TypeId) (l : List UInt8) (hl : IdOk l) (hp : tmps.getD p undef = .pointer (some ⟨g, 0, none⟩)) (hg : Blk w g t (idC l)) :
    (results fn tmps).run Try.prog w = .ok (idv l) w :=
  results_cell_row h tmps w g t (idC l) (0, 0) _ hp hg Try.underlying24 rfl (by rw [idC_size hl]; exact id_info)
theorem id_egt : Try.prog.eqGuardType Try.prog.depth 24 = false := by kernel_rfl
theorem guard_idv (x y : Operand) (l m : List UInt8) (w : World) : (eqGuard .eql 24 x y (idv l) (idv m)).run Try.prog w = .ok () w := by
  unfold eqGuard idv
  simp [go_sem]
theorem guardn_idv (x y : Operand) (l m : List UInt8) (w : World) : (eqGuard .neq 24 x y (idv l) (idv m)).run Try.prog w = .ok () w := by
  unfold eqGuard idv
  simp [go_sem]
theorem neq_idv {l m : List UInt8} (hl : IdOk l) (hm : IdOk m) (w : World) : (binOp .neq 24 (idv l) (idv m)).run Try.prog w = .ok (.bool (!(l == m))) w := by
  unfold idv
  rw [run_neq_struct, run_equalIn_bytes w 9998 24 5 32 Try.underlying24 Try.underlying5 cnt_size1 _ _ hl hm]
  rfl
/-- What was found is an ID, or the zero one. -/
theorem CountAt.idOk {W : World} {B M n : Nat} {N : Int} {V : Vt} (h : CountAt W B M n N V) (r k s : Int) : IdOk ((V r k s).getD zeroId) := by
  cases hv : V r k s with
  | none => exact zeroId_ok
  | some x => exact (h.ids r k s x hv).1
set_option maxRecDepth 100000 in
set_option maxHeartbeats 4000000 in
theorem faults_any (n : Int) (w : World) : Calls Try.prog 18 #[.int .i64 n] w fun e w' => e = .returned (.int .i64 (faults n)) ∧ w' = w := by
  by_cases h1 : n = 1
  · subst h1
    go_enter Try.func18, Try.ntmps18
    go_wp2_with fail
    go_ret
    exact ⟨rfl, rfl⟩
  by_cases h4 : n = 4
  · subst h4
    go_enter Try.func18, Try.ntmps18
    go_wp2_with fail
    go_ret
    exact ⟨rfl, rfl⟩
  by_cases h7 : n = 7
  · subst h7
    go_enter Try.func18, Try.ntmps18
    go_wp2_with fail
    go_ret
    exact ⟨rfl, rfl⟩
  have e1 : (n == 1) = false := beq_eq_false_iff_ne.2 h1
  have e4 : (n == 4) = false := beq_eq_false_iff_ne.2 h4
  have e7 : (n == 7) = false := beq_eq_false_iff_ne.2 h7
  have hf : faults n = -1 := by unfold faults; rw [if_neg h1, if_neg h4, if_neg h7]
  rw [hf]
  clear hf
  go_enter Try.func18, Try.ntmps18
  go_wp2_with fail
  go_ret
  exact ⟨rfl, rfl⟩
set_option maxRecDepth 100000 in
set_option maxHeartbeats 4000000 in
theorem need_any (n : Int) (w : World) : Calls Try.prog 19 #[.int .i64 n] w fun e w' => e = .returned (.int .i64 (need n)) ∧ w' = w := by
  have hf : faults n = -1 ∨ faults n = 0 ∨ faults n = 1 ∨ faults n = 2 := by
    unfold faults
    repeat' split
    all_goals simp
  have HF := Lib.hid fun W => faults_any n W
  unfold need
  generalize faults n = f at HF hf
  rcases hf with rfl | rfl | rfl | rfl
  all_goals
    go_enter Try.func19, Try.ntmps19
    go_wp2_with (first
      | (go_at_call 18; refine (HF.out _).mono ?_; rintro e W1 ⟨rfl, h1⟩; obtain rfl := h1.symm))
    go_ret
    exact ⟨rfl, rfl⟩
/-- What is voted for by who votes for nothing. -/
def nilId : List UInt8 := List.replicate 31 0 ++ [1]
theorem nilId_ok : IdOk nilId := by unfold IdOk nilId; simp
theorem nil_build (w : World) : (Instr.build 24 #[(31, .int .u8 1)]).run Try.prog w = .ok (idv nilId) w := by kernel_rfl
theorem zero_build (w : World) : (Instr.build 24 #[]).run Try.prog w = .ok (idv zeroId) w := by kernel_rfl
set_option maxRecDepth 100000 in
set_option maxHeartbeats 4000000 in
theorem nil_any (w : World) : Calls Try.prog 35 #[] w fun e w' => e = .returned (idv nilId) ∧ Below w.heap.size w w' := by
  go_enter Try.func35, Try.ntmps35
  go_wp2_with (first
    | (guard_target = wpList _ _ _ (Oper.mk _ (.store 24 _ _) _ _ _ _ :: _) _ _; refine wpList_store_idv rfl _ _ rfl w.heap.size nilId rfl (by kernel_rfl) nilId_ok 24 _ (Blk.newAt _ _ rfl rfl) rfl ?_; intro W9 hS9 hz9 hb9 hk9))
  refine bodyPost_ret (results_idv rfl _ _ w.heap.size 24 nilId nilId_ok rfl hS9) rfl ?_
  exact ⟨rfl, ((Below.refl _ w).alloc (Nat.le_refl _) _).trans hb9⟩
set_option maxRecDepth 100000 in
set_option maxHeartbeats 4000000 in
theorem has_any {W : World} {B M n : Nat} {N : Int} {V : Vt} (h : CountAt W B M n N V) (r k s : Int) (hr : wfi r) (hk : wfi k) (hs : wfi s) :
    Calls Try.prog 52 #[.pointer (some ⟨B, 0, none⟩), .int .i64 r, .int .i64 k, .int .i64 s] W fun e w' => e = .returned (.bool (V r k s).isSome) ∧ Below W.heap.size W w' := by
  have c1 := h.cell1
  have hok := h.idOk r k s
  obtain ⟨T, hT, hV⟩ := h.votes
  have hkey := keyV_some hr hk hs
  have hv := hV r k s
  have HT := Lib.hid hT
  have HKEY := Lib.hid hkey
  have HOK := Lib.hid hok
  clear hT hkey hV h hok
  go_enter Try.func52, Try.ntmps52
  go_wp2_with (first
    | (at_lookup; refine wpList_lookupOk_V rfl _ _ _ rfl 117 24 cnt_law Try.underlying111 (zero_idv _) M n T rfl HT.out (keyV r k s) rfl HKEY.out ?_; rw [hv, Option.isSome_map, getD_idv])
    | (guard_target = wpList _ _ _ (Oper.mk _ (.store 24 _ _) _ _ _ _ :: _) _ _; refine wpList_store_idv rfl _ _ rfl W.heap.size _ rfl rfl HOK.out 24 _ (Blk.newAt _ _ rfl rfl) rfl ?_; intro W9 hS9 hz9 hb9 hk9; clear hS9 hz9 hk9))
  go_ret
  exact ⟨rfl, ((Below.refl _ W).alloc (Nat.le_refl _) _).trans hb9⟩
set_option maxRecDepth 100000 in
set_option maxHeartbeats 4000000 in
theorem get_any {W : World} {B M n : Nat} {N : Int} {V : Vt} (h : CountAt W B M n N V) (r k s : Int) (hr : wfi r) (hk : wfi k) (hs : wfi s) :
    Calls Try.prog 30 #[.pointer (some ⟨B, 0, none⟩), .int .i64 r, .int .i64 k, .int .i64 s] W fun e w' => e = .returned (idv ((V r k s).getD zeroId)) ∧ Below W.heap.size W w' := by
  have hok := h.idOk r k s
  obtain ⟨T, hT, hV⟩ := h.votes
  have hkey := keyV_some hr hk hs
  have hv := hV r k s
  have HC := Lib.hid h
  have HT0 := Lib.hid hT
  have HKEY := Lib.hid hkey
  have HOK := Lib.hid hok
  clear hT hkey hV h hok
  go_enter Try.func30, Try.ntmps30
  go_upto_region 1 with fail
  generalize hW : World.alloc W _ = W1
  have hb1 : Below W.heap.size W W1 := by rw [← hW]; exact (Below.refl _ _).alloc (Nat.le_refl _) _
  have k8 : ∃ old, Blk W1 W.heap.size 24 old ∧ old.size = 32 := by rw [← hW]; exact ⟨_, Blk.newAt _ _ rfl rfl, rfl⟩
  have c1 := (HC.out.below hb1).cell1
  have HT := Lib.hid (HT0.out.same (hb1.block _ HT0.out.lt))
  have HB1 := Lib.hid hb1
  have HK := Lib.hid k8
  clear hW hb1 k8
  go_wp2_with (first
    | (at_lookup; refine wpList_lookup_V rfl _ _ _ rfl 117 24 cnt_law Try.underlying111 (zero_idv _) M n T rfl HT.out (keyV r k s) rfl HKEY.out ?_; rw [hv, getD_idv])
    | (guard_target = wpList _ _ _ (Oper.mk _ (.store 24 _ _) _ _ _ _ :: _) _ _; obtain ⟨old, hk, hs⟩ := HK.out; refine wpList_store_idv rfl _ _ rfl W.heap.size _ rfl rfl HOK.out 24 _ hk hs ?_; intro W9 hS9 hz9 hb9 hk9))
  refine bodyPost_ret (results_idv rfl _ _ W.heap.size 24 _ HOK.out rfl hS9) rfl ?_
  exact ⟨rfl, HB1.out.trans hb9⟩
end Go.Proofs.Ytpjeildiahklpaa
