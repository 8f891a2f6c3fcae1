/-
  The count of votes: the guard of its laws, and the document's Nil. No condition.
-/
import Derived.Test.YtpjeildiahklpaaCntAhead
namespace Go.Proofs.Ytpjeildiahklpaa
open Go Go.RowKit Go.Maps

section
variable {P : Program} {ops : Array Oper} {rest : List Oper} {o : Oper} {a : Act} {w : World} {Q : Exit → Act → World → Prop}
/-- An array or struct literal, its cells said. -/
theorem wpList_buildTo (hw : Region.wanted o (yielded ops a.tmps) = true) (t : TypeId) (parts : Array (Nat × Operand)) (ho : o.op = .build t parts) (cells : Array Value)
    (hf : P.built t (parts.map fun (i, x) => (i, a.eval x)).toList = some cells)
    (h : wpList P ops Q rest (a.put o.dst (.agg cells)) w) : wpList P ops Q (o :: rest) a w :=
  wpList_step fun K hK => by
    rw [if_pos hw]
    refine wp_build t parts ho (by rw [hf]; rfl) (hK _ _ ?_)
    rw [hf]
    exact h
theorem wpList_load_runS (hw : Region.wanted o (yielded ops a.tmps) = true) (ty : TypeId) (x : Operand) (ho : o.op = .load ty x) (p v : Value) (hx : a.eval x = p) (hl : (Instr.loadAt ty p).run P w = .ok v w)
    (h : wpList P ops Q rest (a.put o.dst v) w) : wpList P ops Q (o :: rest) a w :=
  wpList_step fun K hK => by
    rw [if_pos hw]
    exact oper_load ty x ho p v hx hl (hK _ _ h)
end
/-- A load of an ID behind a guard that is met. -/
theorem wpList_load_idvG {ops : Array Oper} {rest : List Oper} {o : Oper} {a : Act} {w : World} {Q : Exit → Act → World → Prop} (hw : Region.wanted o (yielded ops a.tmps) = true) (x : Operand) (ho : o.op = .load 24 x) (g : Nat) (l : List UInt8) (hx : a.eval x = .pointer (some ⟨g, 0, none⟩)) (hl : IdOk l) (t : TypeId) (hg : Blk w g t (idC l))
    (h : wpList Try.prog ops Q rest (a.put o.dst (idv l)) w) : wpList Try.prog ops Q (o :: rest) a w :=
  wpList_load_runS hw 24 x ho _ _ hx (run_loadVar_row w g t 24 (idC l) (0, 0) _ hg Try.underlying24 rfl (by rw [idC_size hl]; exact id_info)) h
def sevenId : List UInt8 := 7 :: List.replicate 31 0
def eightId : List UInt8 := 8 :: List.replicate 31 0
theorem sevenId_ok : IdOk sevenId := by unfold IdOk sevenId; simp
theorem eightId_ok : IdOk eightId := by unfold IdOk eightId; simp
theorem wfi_small {n : Int} (h1 : -1000000 ≤ n) (h2 : n ≤ 1000000) : wfi n := by
  unfold wfi Lit.wf
  simp only [Bool.and_eq_true, decide_eq_true_eq]
  exact ⟨Int.le_trans (by decide) h1, Int.le_trans h2 (by decide)⟩
theorem below_of_grown {w w' : World} {g b : Nat} (h : w.grownBy w' (some g)) (hb : b ≤ g) (hw : b ≤ w.heap.size) : Below b w w' :=
  ⟨h.os, h.tape, h.output, h.size, fun i hi => h.block i (by omega) (by simp; omega)⟩
def gV : Nat → Vt
  | 0 => noVotes
  | i + 1 => putT 4 (gV i) 2 1 i sevenId
set_option maxRecDepth 100000 in
theorem gV_code0 : putCode 4 (gV 0) 2 1 ((0 : Nat) : Int) sevenId = 0 := by kernel_rfl
set_option maxRecDepth 100000 in
theorem gV_code1 : putCode 4 (gV 1) 2 1 ((1 : Nat) : Int) sevenId = 0 := by kernel_rfl
set_option maxRecDepth 100000 in
theorem gV_code2 : putCode 4 (gV 2) 2 1 ((2 : Nat) : Int) sevenId = 0 := by kernel_rfl
theorem gV_code {i : Nat} (hi : i < 3) : putCode 4 (gV i) 2 1 i sevenId = 0 := by
  obtain h | h | h : i = 0 ∨ i = 1 ∨ i = 2 := by omega
  · rw [h]; exact gV_code0
  · rw [h]; exact gV_code1
  · rw [h]; exact gV_code2
set_option maxRecDepth 100000 in
theorem gV_sure : sureO 4 (gV 3) 2 1 = some sevenId := by kernel_rfl
set_option maxRecDepth 100000 in
theorem gV_ahead : aheadO 4 (gV 3) 0 = some 2 := by kernel_rfl
set_option maxRecDepth 100000 in
theorem gV_twice : putCode 4 (gV 3) 2 1 0 eightId = 5 := by kernel_rfl
set_option maxRecDepth 100000 in
theorem seven_built : Try.prog.built 24 [(0, .int .u8 7)] = some (idC sevenId) := by kernel_rfl
set_option maxRecDepth 100000 in
theorem eight_built : Try.prog.built 24 [(0, .int .u8 8)] = some (idC eightId) := by kernel_rfl
set_option maxRecDepth 100000 in
theorem zero_built' : Try.prog.built 24 [] = some (idC zeroId) := by kernel_rfl
theorem seven_agg : Value.agg #[Value.int IntKind.u8 7, Value.int IntKind.u8 0, Value.int IntKind.u8 0, Value.int IntKind.u8 0, Value.int IntKind.u8 0, Value.int IntKind.u8 0, Value.int IntKind.u8 0, Value.int IntKind.u8 0, Value.int IntKind.u8 0, Value.int IntKind.u8 0, Value.int IntKind.u8 0, Value.int IntKind.u8 0, Value.int IntKind.u8 0, Value.int IntKind.u8 0, Value.int IntKind.u8 0, Value.int IntKind.u8 0, Value.int IntKind.u8 0, Value.int IntKind.u8 0, Value.int IntKind.u8 0, Value.int IntKind.u8 0, Value.int IntKind.u8 0, Value.int IntKind.u8 0, Value.int IntKind.u8 0, Value.int IntKind.u8 0, Value.int IntKind.u8 0, Value.int IntKind.u8 0, Value.int IntKind.u8 0, Value.int IntKind.u8 0, Value.int IntKind.u8 0, Value.int IntKind.u8 0, Value.int IntKind.u8 0, Value.int IntKind.u8 0] = idv sevenId := by kernel_rfl
theorem eight_agg : Value.agg #[Value.int IntKind.u8 8, Value.int IntKind.u8 0, Value.int IntKind.u8 0, Value.int IntKind.u8 0, Value.int IntKind.u8 0, Value.int IntKind.u8 0, Value.int IntKind.u8 0, Value.int IntKind.u8 0, Value.int IntKind.u8 0, Value.int IntKind.u8 0, Value.int IntKind.u8 0, Value.int IntKind.u8 0, Value.int IntKind.u8 0, Value.int IntKind.u8 0, Value.int IntKind.u8 0, Value.int IntKind.u8 0, Value.int IntKind.u8 0, Value.int IntKind.u8 0, Value.int IntKind.u8 0, Value.int IntKind.u8 0, Value.int IntKind.u8 0, Value.int IntKind.u8 0, Value.int IntKind.u8 0, Value.int IntKind.u8 0, Value.int IntKind.u8 0, Value.int IntKind.u8 0, Value.int IntKind.u8 0, Value.int IntKind.u8 0, Value.int IntKind.u8 0, Value.int IntKind.u8 0, Value.int IntKind.u8 0, Value.int IntKind.u8 0] = idv eightId := by kernel_rfl
theorem id_set31 : (idC zeroId).setIfInBounds 31 (.int .u8 1) = idC nilId := by kernel_rfl
set_option maxRecDepth 100000 in
set_option maxHeartbeats 4000000 in
theorem refnil_any (w : World) : Calls Try.prog 50 #[] w fun e w' => e = .returned (idv nilId) ∧ Below w.heap.size w w' := by
  go_enter Try.func50, Try.ntmps50
  go_upto_region 1 with fail
  generalize hW : World.alloc w _ = W1
  have hb1 : Below w.heap.size w W1 := by rw [← hW]; exact (Below.refl _ _).alloc (Nat.le_refl _) _
  have k0 : ∃ old, Blk W1 w.heap.size 24 old ∧ old.size = 32 := by rw [← hW]; exact ⟨_, Blk.newAt _ _ rfl rfl, rfl⟩
  have hz1 : W1.heap.size = w.heap.size + 1 := by rw [← hW]; simp
  have HB1 := Lib.hid hb1
  have HK0 := Lib.hid k0
  have HZ1 := Lib.hid hz1
  clear hW hb1 k0 hz1
  go_upto_region 2 with (first
    | (guard_target = wpList _ _ _ (Oper.mk _ (.build _ _) _ _ _ _ :: _) _ _; refine wpList_buildTo (by rfl) 24 _ rfl (idC zeroId) zero_built' ?_)
    | (guard_target = wpList _ _ _ (Oper.mk _ (.store 24 _ _) _ _ _ _ :: _) _ _; refine wpList_store_idv rfl _ _ rfl W1.heap.size zeroId rfl rfl zeroId_ok 24 _ (Blk.newAt _ _ rfl rfl) rfl ?_; intro W2 hS2 hz2 hb2 hk2))
  have hq := hS2.store 31 (.int .u8 1)
  rw [id_set31] at hq
  have hbB : Below W1.heap.size W1 W2 := ((Below.refl _ W1).alloc (Nat.le_refl _) _).trans hb2
  have c31 : W2.cell? ⟨W1.heap.size, 31, none⟩ = some (.int .u8 0) := by rw [hS2.cell]; kernel_rfl
  have f31 : W2.frozen? ⟨W1.heap.size, 31, none⟩ = false := hS2.frozen 31
  have hbC := hbB.setCell (p := ⟨W1.heap.size, 31, none⟩) (Nat.le_refl _) (.int .u8 1)
  have HQ := Lib.hid hq
  have HBC := Lib.hid hbC
  clear hS2 hz2 hb2 hk2 hq hbB hbC
  go_upto_region 3 with fail
  generalize World.setCell W2 _ _ = W3 at HQ HBC ⊢
  obtain ⟨old, hk0, hs0⟩ := HK0.out
  have HK3 := Lib.hid (hk0.below HBC.out (by rw [HZ1.out]; omega))
  have HS0 := Lib.hid hs0
  clear hk0 hs0 c31 f31
  go_wp2_with (first
    | (guard_target = wpList _ _ _ (Oper.mk _ (.load 24 _) _ _ _ _ :: _) _ _; refine wpList_load_idv rfl _ rfl W1.heap.size nilId rfl nilId_ok 24 HQ.out ?_)
    | (guard_target = wpList _ _ _ (Oper.mk _ (.store 24 _ _) _ _ _ _ :: _) _ _; refine wpList_store_idv rfl _ _ rfl w.heap.size nilId rfl rfl nilId_ok 24 old HK3.out HS0.out ?_; intro W9 hS9 hz9 hb9 hk9))
  refine bodyPost_ret (results_idv rfl _ _ w.heap.size 24 nilId nilId_ok rfl hS9) rfl ?_
  exact ⟨rfl, (HB1.out.trans (HBC.out.mono (by rw [HZ1.out]; omega))).trans hb9⟩
set_option maxRecDepth 100000 in
set_option maxHeartbeats 8000000 in
theorem counts_any (w : World) : Calls Try.prog 15 #[] w fun e w' => e = .returned (.bool true) ∧ Below w.heap.size w w' := by
  go_enter Try.func15, Try.ntmps15
  go_upto_region 5 with (first
    | (go_at_call 16; refine (new_some 4 w (by decide)).mono ?_; rintro e W1 ⟨rfl, hc1, hb1⟩; have HC := Lib.hid hc1; have HB := Lib.hid hb1; clear hc1 hb1))
  have HG : Hid (w.heap.size < W1.heap.size) := Lib.hid HC.out.ltM
  go_loopw [3] (fun i wr => ∃ k : Nat, k ≤ 3 ∧ i = .int .i64 (k : Int) ∧ CountAt wr (w.heap.size + 1) w.heap.size k 4 (gV k) ∧ Below w.heap.size w wr ∧ W1.heap.size ≤ wr.heap.size) (fun i _ => 3 - (intOf i).toNat)
  case atStart => exact ⟨0, Nat.zero_le _, rfl, HC.out, HB.out, Nat.le_refl _⟩
  case round =>
    obtain ⟨k, hk, rfl, hc, hb, hs⟩ := hrel
    have HCK := Lib.hid hc
    have HBK := Lib.hid hb
    have HSK := Lib.hid hs
    clear hc hb hs
    by_cases hlt : k < 3
    · have hkn : (k : Int) < 3 := by omega
      have hk0 : (0 : Int) ≤ (k : Int) := by omega
      have hcode := gV_code hlt
      have HCODE := Lib.hid hcode
      clear hcode
      go_wp2_with (first
        | (go_at_call 21; rw [seven_agg]; refine (put_any HCK.out 2 1 (k : Int) sevenId sevenId_ok (wfi_small (by decide) (by decide)) (wfi_small (by decide) (by decide)) (wfi_small (by omega) (by omega)) (by have := hlt; unfold maxLen; omega)).mono ?_; rw [HCODE.out]; rintro e W2 ⟨rfl, hc2, hg2⟩; have HC2 := Lib.hid hc2; have HG2 := Lib.hid hg2; clear hc2 hg2))
      go_roundw
      case rel => exact ⟨k + 1, by omega, by go_num, HC2.out, HBK.out.trans (below_of_grown HG2.out (Nat.le_refl _) HBK.out.size), Nat.le_trans HSK.out HG2.out.size⟩
      case measure => simp [intOf]; omega
    · obtain rfl : k = 3 := by omega
      have hkn : ¬ (3 : Int) < 3 := by omega
      have HSU : Hid (∀ W, CountAt W (w.heap.size + 1) w.heap.size 3 4 (gV 3) → Calls Try.prog 22 #[.pointer (some ⟨w.heap.size + 1, 0, none⟩), .int .i64 2, .int .i64 1] W fun e w' => e = .returned (.tuple #[idv sevenId, .bool true]) ∧ Below W.heap.size W w') := Lib.hid fun W h => by
        have := sure_any (NN := 4) h 2 1 (wfi_small (by decide) (by decide)) (wfi_small (by decide) (by decide)) (by omega)
        rw [gV_sure] at this
        exact this
      have HAH : Hid (∀ W, CountAt W (w.heap.size + 1) w.heap.size 3 4 (gV 3) → Calls Try.prog 28 #[.pointer (some ⟨w.heap.size + 1, 0, none⟩), .int .i64 0] W fun e w' => e = .returned (.tuple #[.int .i64 2, .bool true]) ∧ Below W.heap.size W w') := Lib.hid fun W h => by
        have := ahead_any (NN := 4) h 0 (wfi_small (by decide) (by decide)) (by omega) (by decide)
        rw [gV_ahead] at this
        exact this
      have HPU : Hid (∀ W, CountAt W (w.heap.size + 1) w.heap.size 3 4 (gV 3) → Calls Try.prog 21 #[.pointer (some ⟨w.heap.size + 1, 0, none⟩), .int .i64 2, .int .i64 1, .int .i64 0, idv eightId] W fun e w' => e = .returned (.int .i64 5) ∧ W.grownBy w' (some w.heap.size)) := Lib.hid fun W h => by
        have := put_any h 2 1 0 eightId eightId_ok (wfi_small (by decide) (by decide)) (wfi_small (by decide) (by decide)) (wfi_small (by decide) (by decide)) (by unfold maxLen; omega)
        rw [gV_twice] at this
        exact this.mono fun e w' h => ⟨h.1, h.2.2⟩
      have he7 := fun W => eql_idv sevenId_ok sevenId_ok W
      have heN := fun W => eql_idv nilId_ok nilId_ok W
      have hg7 := fun x y W => guard_idv x y sevenId sevenId W
      have hgN := fun x y W => guard_idv x y nilId nilId W
      simp only [beq_self_eq_true] at he7 heN
      go_upto_region 11 with (first
        | (go_at_call 22; refine (HSU.out _ HCK.out).mono ?_; rintro e W2 ⟨rfl, hb2⟩; have HB2 := Lib.hid hb2; clear hb2)
        | (guard_target = wpList _ _ _ (Oper.mk _ (.store 24 _ _) _ _ _ _ :: _) _ _; refine wpList_store_idv rfl _ _ rfl W2.heap.size sevenId rfl rfl sevenId_ok 24 _ (Blk.newAt _ _ rfl rfl) rfl ?_; intro W3 hS3 hz3 hb3 hk3; have HK3 := Lib.hid hS3; have HB3 := Lib.hid (HB2.out.trans ((((Below.refl _ W2).alloc (Nat.le_refl _) _).trans hb3).mono HB2.out.size)); clear hS3 hz3 hb3 hk3)
        | (go_at_call 28; refine (HAH.out _ (HCK.out.below HB3.out)).mono ?_; rintro e W4 ⟨rfl, hb4⟩; have HB4 := Lib.hid (HB3.out.trans (hb4.mono HB3.out.size)); have HK4 := Lib.hid (HK3.out.below hb4 HK3.out.lt); clear hb4))
      go_wp2_with (first
        | (guard_target = wpList _ _ _ (Oper.mk _ (.load 24 _) _ _ _ _ :: _) _ _; refine wpList_load_idvG (by rfl) _ rfl W2.heap.size sevenId rfl sevenId_ok 24 HK4.out ?_)
        | (guard_target = wpList _ _ _ (Oper.mk _ (.binOp .eql 24 _ _ _) _ _ _ _ :: _) _ _; rw [seven_agg])
        | (go_at_call 21; rw [eight_agg]; refine (HPU.out _ (HCK.out.below HB4.out)).mono ?_; rintro e W5 ⟨rfl, hg5⟩; have hq4 := HBK.out.trans (HB4.out.mono HBK.out.size); have HB5 := Lib.hid (hq4.trans (below_of_grown hg5 (Nat.le_refl _) hq4.size)); clear hq4; clear hg5)
        | (go_at_call 19; refine (need_any 7 _).mono ?_; rintro e W6 ⟨rfl, h6⟩; obtain rfl := h6.symm)
        | (go_at_call 35; refine (nil_any _).mono ?_; rintro e W7 ⟨rfl, hb7⟩; have HB7 := Lib.hid (HB5.out.trans (hb7.mono HB5.out.size)); clear hb7)
        | (go_at_call 50; refine (refnil_any _).mono ?_; rintro e W8 ⟨rfl, hb8⟩; have HB8 := Lib.hid (HB7.out.trans (hb8.mono HB7.out.size)); clear hb8))
      go_ret
      exact ⟨rfl, HB8.out⟩
end Go.Proofs.Ytpjeildiahklpaa
