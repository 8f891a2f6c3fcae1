/-
  The count of votes: New and Put. No condition.
-/
import Derived.Test.YtbgojlcciealiaaQBase
import Derived.Deep.RegionHeld3
import Derived.Laws.Tables
namespace Go.Proofs.Ytbgojlcciealiaa
open Go Go.RowKit Go.Maps

section
variable {P : Program} {op : Oper} {a : Act} {w : World} {K : Act → World → Prop} {Q : Exit → Act → World → Prop}
theorem oper_store_V (m x v : Operand) (t : TypeId) (hop : op.op = Op.mapUpdate t m x v) (KT e : TypeId) (L : Keyed P KT) (ht : P.underlying t = some (.map KT e)) (b n : Nat) (M : Value → Option Value)
    (hm : a.eval m = .map (some b)) (h : MapV P KT w b n M) (hn : n < maxLen) (key val : Value) (hx : a.eval x = key) (hv : a.eval v = val) (hkey : ∃ kl, keyOf P KT key = some kl)
    (hK : ∀ w', MapV P KT w' b (n + 1) (putV M key val) → w.mapTurned w' b → K (a.put op.dst undef) w') : op.wp P a w K Q := by
  obtain ⟨kl, hkey⟩ := hkey
  obtain ⟨w', hrun, r1, r2⟩ := h.store L ht hn (v := val) hkey
  unfold Oper.wp
  simp [execOp, hop, hm, hx, hv, hrun, Result.andThen, Oper.upon]
  exact hK w' r1 r2
end
theorem loadVar_one {P : Program} {ty : TypeId} {d : TypeDesc} {a : Addr} {v : Value} {w : World} (hu : P.underlying ty = some d) (hd : (match d with | .struct _ | .array _ _ => true | _ => false) = false) (hc : w.cell? a = some v) :
    (Go.loadVar ty a).run P w = .ok v w := by
  have hagg : (isAgg ty).run P w = .ok false w := by
    unfold isAgg
    rw [Sem.run_bind, run_underlying hu w]
    cases d <;> simp_all
  simp [loadVar, Sem.run_bind, hagg, hc, go_sem]
/-- The only result lies in a cell. -/
theorem yields_one {P : Program} {ops : Array Oper} {S : World → Prop} {op : Oper} {a : Act} (hw : Region.wanted op (yielded ops a.tmps) = true) (ty : TypeId) (x : Operand) (ho : op.op = .load ty x)
    (ad : Addr) (hx : a.eval x = .pointer (some ad)) (v : Value) (d : TypeDesc) (hS : ∀ w, S w → w.cell? ad = some v)
    (hu : P.underlying ty = some d) (hd : (match d with | .struct _ | .array _ _ => true | _ => false) = false) : YieldsIf P ops S op v a :=
  .inl ⟨hw, fun w hw' => by
    have hl : (Instr.loadAt ty (.pointer (some ad))).run P w = .ok v w := loadVar_one hu hd (hS w hw')
    unfold execOp
    simp only [ho, hx, Sem.run_bind, hl, Sem.run_pure, Result.andThen_ok]⟩
theorem yields_idv {ops : Array Oper} {S : World → Prop} {op : Oper} {a : Act} (hw : Region.wanted op (yielded ops a.tmps) = true) (x : Operand) (ho : op.op = .load 24 x)
    (g : Nat) (hx : a.eval x = .pointer (some ⟨g, 0, none⟩)) (t : TypeId) (l : List UInt8) (hl : IdOk l) (hS : ∀ w, S w → Blk w g t (idC l)) : YieldsIf Try.prog ops S op (idv l) a :=
  .inl ⟨hw, fun w hw' => by
    have hl2 : (Instr.loadAt 24 (.pointer (some ⟨g, 0, none⟩))).run Try.prog w = .ok (idv l) w := run_loadVar_row w g t 24 (idC l) (0, 0) _ (hS w hw') Try.underlying24 rfl (by rw [idC_size hl]; exact id_info)
    unfold execOp
    simp only [ho, hx, Sem.run_bind, hl2, Sem.run_pure, Result.andThen_ok]⟩
theorem grown_of_below {w w' : World} (h : Below w.heap.size w w') (row : Option Nat) : w.grownBy w' row := ⟨h.os, h.tape, h.output, h.size, fun i hi _ => h.block i hi⟩
theorem grown_trans {a b c : World} {row : Option Nat} (h : a.grownBy b row) (k : b.grownBy c row) : a.grownBy c row := ⟨k.os.trans h.os, k.tape.trans h.tape, k.output.trans h.output, Nat.le_trans h.size k.size, fun i hi hn => (k.block i (Nat.lt_of_lt_of_le hi h.size) hn).trans (h.block i hi hn)⟩
theorem grown_of_turned {w w' : World} {b : Nat} (h : w.mapTurned w' b) : w.grownBy w' (some b) := h.grown
theorem CountAt.mono {W : World} {B M n m : Nat} {N : Int} {V : Vt} (h : CountAt W B M n N V) (hm : n ≤ m) : CountAt W B M m N V := by
  obtain ⟨h1, ⟨T, h2, h3⟩, h4⟩ := h
  exact ⟨h1, ⟨T, h2.mono hm, h3⟩, h4⟩
theorem CountAt.ne {W : World} {B M n : Nat} {N : Int} {V : Vt} (h : CountAt W B M n N V) : B ≠ M := by
  rintro rfl
  obtain ⟨h1, ⟨T, ⟨D, ⟨es, c, h2, _⟩, _⟩, _⟩, _⟩ := h
  unfold Blk at h1
  rw [h1] at h2
  cases h2
theorem CountAt.put {W W' : World} {B M n : Nat} {N : Int} {V : Vt} {T : Value → Option Value} {r k s : Int} {id : List UInt8} (h : CountAt W B M n N V) (hid : IdOk id) (hz : id ≠ zeroId) (hV : ∀ r k s, T (keyV r k s) = (V r k s).map idv)
    (hm : MapV Try.prog 117 W' M (n + 1) (putV T (keyV r k s) (idv id))) (ht : W.mapTurned W' M) : CountAt W' B M (n + 1) N (putC V r k s id) := by
  refine ⟨?_, ⟨_, hm, fun r' k' s' => ?_⟩, fun r' k' s' x hx => ?_⟩
  · have := h.blk
    unfold Blk at this ⊢
    rw [turned_other ht h.ne]
    exact this
  · unfold putC
    split
    · rename_i he
      obtain ⟨rfl, rfl, rfl⟩ := he
      rw [putV_same]
      rfl
    · rename_i he
      rw [putV_other (keyV_ne he), hV]
  · unfold putC at hx
    split at hx
    · cases hx
      exact ⟨hid, hz⟩
    · exact h.ids _ _ _ _ hx
set_option maxRecDepth 100000 in
set_option maxHeartbeats 4000000 in
theorem new_none (n : Int) (w : World) (h : faults n < 0) : Calls Try.prog 16 #[.int .i64 n] w fun e w' => e = .returned (.tuple #[.pointer none, .int .i64 1]) ∧ w' = w := by
  have HF := Lib.hid fun W => faults_any n W
  have h' : decide (faults n < 0) = true := decide_eq_true h
  generalize faults n = f at HF h h'
  go_enter Try.func16, Try.ntmps16
  go_wp2_with (first
    | (go_at_call 18; refine (HF.out _).mono ?_; rintro e W1 ⟨rfl, h1⟩; obtain rfl := h1.symm))
  go_ret2
  exact ⟨rfl, rfl⟩
set_option maxRecDepth 100000 in
set_option maxHeartbeats 4000000 in
theorem new_some (n : Int) (w : World) (h : 0 ≤ faults n) : Calls Try.prog 16 #[.int .i64 n] w fun e w' => e = .returned (.tuple #[.pointer (some ⟨w.heap.size + 1, 0, none⟩), .int .i64 0]) ∧ CountAt w' (w.heap.size + 1) w.heap.size 0 n noVotes ∧ Below w.heap.size w w' := by
  have HF := Lib.hid fun W => faults_any n W
  have h' : decide (faults n < 0) = false := decide_eq_false (by omega)
  have h'' : ¬ faults n < 0 := by omega
  generalize faults n = f at HF h h' h''
  have hmm := @run_makeMap Try.prog
  go_enter Try.func16, Try.ntmps16
  go_wp2_with (first
    | (go_at_call 18; refine (HF.out _).mono ?_; rintro e W1 ⟨rfl, h1⟩; obtain rfl := h1.symm))
  go_ret2
  refine ⟨rfl, ⟨Blk.newAt _ _ (by simp) rfl, ⟨_, (mapV_made Try.prog 117 w).same (Below.heap_alloc _ _ _ (by simp)), fun _ _ _ => rfl⟩, fun _ _ _ _ h => by cases h⟩, ((Below.refl _ w).alloc (Nat.le_refl _) _).alloc (by simp) _⟩
section
variable {ops : Array Oper} {rest : List Oper} {o : Oper} {a : Act} {w : World} {Q : Exit → Act → World → Prop}
set_option maxRecDepth 100000 in
theorem zero_built : Value.agg ((Try.prog.built 24 []).getD #[]) = idv zeroId := by kernel_rfl
set_option maxRecDepth 100000 in
theorem wpList_build_zero (hgd : o.guard = none) (ho : o.op = .build 24 #[]) (h : wpList Try.prog ops Q rest (a.put o.dst (idv zeroId)) w) : wpList Try.prog ops Q (o :: rest) a w :=
  wpList_plain hgd fun K hK => wp_build 24 #[] ho (by kernel_rfl) (by
    rw [show (((#[] : Array (Nat × Operand)).map fun (x : Nat × Operand) => (x.1, a.eval x.2)).toList) = [] from by simp, zero_built]
    exact hK _ _ h)
end
set_option maxRecDepth 100000 in
set_option maxHeartbeats 4000000 in
theorem put_round {W : World} {B M n : Nat} {N : Int} {V : Vt} (h : CountAt W B M n N V) (r k s : Int) (id : List UInt8) (hid : IdOk id) (hr : r < 0 ∨ 12 ≤ r) :
    Calls Try.prog 21 #[.pointer (some ⟨B, 0, none⟩), .int .i64 r, .int .i64 k, .int .i64 s, .agg (idC id)] W fun e w' => e = .returned (.int .i64 1) ∧ Below W.heap.size W w' := by
  obtain ⟨W0, hW0⟩ : ∃ W0, W.alloc (.cells (idC id) 24) = W0 := ⟨_, rfl⟩
  have hb0 : Below W.heap.size W W0 := by rw [← hW0]; exact (Below.refl _ _).alloc (Nat.le_refl _) _
  have k9 : Blk W0 W.heap.size 24 (idC id) := by rw [← hW0]; exact Blk.new _ _ _
  have h0 := h.below hb0
  have HB0 := Lib.hid hb0
  have HK9 := Lib.hid k9
  have H0 := Lib.hid h0
  have HID := Lib.hid hid
  have c0 := h0.cell0
  have hr' : (decide (r < 0) || decide (12 ≤ r)) = true := by rcases hr with h | h <;> simp [h]
  clear h h0 hb0 k9 hid
  go_enter Try.func21, Try.ntmps21
  go_upto_region 1 with fail
  go_wp2_with fail
  all_goals go_ret
  all_goals exact ⟨rfl, HB0.out⟩
set_option maxRecDepth 100000 in
set_option maxHeartbeats 4000000 in
theorem put_kind {W : World} {B M n : Nat} {N : Int} {V : Vt} (h : CountAt W B M n N V) (r k s : Int) (id : List UInt8) (hid : IdOk id) (hr : 0 ≤ r ∧ r < 12) (hk : k ≠ 0 ∧ k ≠ 1) :
    Calls Try.prog 21 #[.pointer (some ⟨B, 0, none⟩), .int .i64 r, .int .i64 k, .int .i64 s, .agg (idC id)] W fun e w' => e = .returned (.int .i64 1) ∧ Below W.heap.size W w' := by
  obtain ⟨W0, hW0⟩ : ∃ W0, W.alloc (.cells (idC id) 24) = W0 := ⟨_, rfl⟩
  have hb0 : Below W.heap.size W W0 := by rw [← hW0]; exact (Below.refl _ _).alloc (Nat.le_refl _) _
  have k9 : Blk W0 W.heap.size 24 (idC id) := by rw [← hW0]; exact Blk.new _ _ _
  have h0 := h.below hb0
  have HB0 := Lib.hid hb0
  have HK9 := Lib.hid k9
  have H0 := Lib.hid h0
  have HID := Lib.hid hid
  have c0 := h0.cell0
  have hr0 : decide (r < 0) = false := decide_eq_false (by omega)
  have hr1 : ¬ r < 0 := by omega
  have hr2 : decide (12 ≤ r) = false := decide_eq_false (by omega)
  have hr3 : ¬ 12 ≤ r := by omega
  have hk0 : (k == 0) = false := beq_eq_false_iff_ne.2 hk.1
  have hk1 : (k == 1) = false := beq_eq_false_iff_ne.2 hk.2
  have hk2 : (k != 0) = true := by simpa using hk.1
  have hk3 : (k != 1) = true := by simpa using hk.2
  clear h h0 hb0 k9 hid
  go_enter Try.func21, Try.ntmps21
  go_upto_region 1 with fail
  go_wp2_with fail
  all_goals go_ret
  all_goals exact ⟨rfl, HB0.out⟩
set_option maxRecDepth 100000 in
set_option maxHeartbeats 4000000 in
theorem put_who {W : World} {B M n : Nat} {N : Int} {V : Vt} (h : CountAt W B M n N V) (r k s : Int) (id : List UInt8) (hid : IdOk id) (hr : 0 ≤ r ∧ r < 12) (hk : k = 0 ∨ k = 1) (hs : s < 0 ∨ N ≤ s) :
    Calls Try.prog 21 #[.pointer (some ⟨B, 0, none⟩), .int .i64 r, .int .i64 k, .int .i64 s, .agg (idC id)] W fun e w' => e = .returned (.int .i64 1) ∧ Below W.heap.size W w' := by
  obtain ⟨W0, hW0⟩ : ∃ W0, W.alloc (.cells (idC id) 24) = W0 := ⟨_, rfl⟩
  have hb0 : Below W.heap.size W W0 := by rw [← hW0]; exact (Below.refl _ _).alloc (Nat.le_refl _) _
  have k9 : Blk W0 W.heap.size 24 (idC id) := by rw [← hW0]; exact Blk.new _ _ _
  have h0 := h.below hb0
  have HB0 := Lib.hid hb0
  have HK9 := Lib.hid k9
  have H0 := Lib.hid h0
  have HID := Lib.hid hid
  have c0 := h0.cell0
  have hr0 : decide (r < 0) = false := decide_eq_false (by omega)
  have hr1 : ¬ r < 0 := by omega
  have hr2 : decide (12 ≤ r) = false := decide_eq_false (by omega)
  have hr3 : ¬ 12 ≤ r := by omega
  have hs' : (decide (s < 0) || decide (N ≤ s)) = true := by rcases hs with h | h <;> simp [h]
  clear h h0 hb0 k9 hid
  rcases hk with rfl | rfl
  all_goals
    go_enter Try.func21, Try.ntmps21
    go_upto_region 1 with fail
    go_wp2_with fail
    all_goals go_ret
    all_goals exact ⟨rfl, HB0.out⟩
set_option maxRecDepth 100000 in
set_option maxHeartbeats 4000000 in
theorem put_zero {W : World} {B M n : Nat} {N : Int} {V : Vt} (h : CountAt W B M n N V) (r k s : Int) (id : List UInt8) (hid : IdOk id) (hr : 0 ≤ r ∧ r < 12) (hk : k = 0 ∨ k = 1) (hs : 0 ≤ s ∧ s < N) (hz : id = zeroId) :
    Calls Try.prog 21 #[.pointer (some ⟨B, 0, none⟩), .int .i64 r, .int .i64 k, .int .i64 s, .agg (idC id)] W fun e w' => e = .returned (.int .i64 1) ∧ Below W.heap.size W w' := by
  obtain ⟨W0, hW0⟩ : ∃ W0, W.alloc (.cells (idC id) 24) = W0 := ⟨_, rfl⟩
  have hb0 : Below W.heap.size W W0 := by rw [← hW0]; exact (Below.refl _ _).alloc (Nat.le_refl _) _
  have k9 : Blk W0 W.heap.size 24 (idC id) := by rw [← hW0]; exact Blk.new _ _ _
  have h0 := h.below hb0
  have HB0 := Lib.hid hb0
  have HK9 := Lib.hid k9
  have H0 := Lib.hid h0
  have HID := Lib.hid hid
  have c0 := h0.cell0
  have hr0 : decide (r < 0) = false := decide_eq_false (by omega)
  have hr1 : ¬ r < 0 := by omega
  have hr2 : decide (12 ≤ r) = false := decide_eq_false (by omega)
  have hr3 : ¬ 12 ≤ r := by omega
  have hs0 : decide (s < 0) = false := decide_eq_false (by omega)
  have hs1 : ¬ s < 0 := by omega
  have hs2 : decide (N ≤ s) = false := decide_eq_false (by omega)
  have hs3 : ¬ N ≤ s := by omega
  have heq := fun W => eql_idv hid zeroId_ok W
  have hgd := fun x y W => guard_idv x y id zeroId W
  rw [show (id == zeroId) = true from by rw [hz]; simp] at heq
  clear hz
  clear h h0 hb0 k9 hid
  rcases hk with rfl | rfl
  all_goals
    go_enter Try.func21, Try.ntmps21
    go_upto_region 1 with fail
    go_wp2_with (first | (guard_target = wpList _ _ _ (Oper.mk _ (.load 24 _) _ _ _ _ :: _) _ _; refine wpList_load_idv rfl _ rfl W.heap.size id rfl HID.out 24 HK9.out ?_) | (guard_target = wpList _ _ _ (Oper.mk _ (.build 24 _) _ _ _ _ :: _) _ _; refine wpList_build_zero rfl rfl ?_))
    all_goals go_ret
    all_goals exact ⟨rfl, HB0.out⟩
set_option maxRecDepth 100000 in
set_option maxHeartbeats 4000000 in
theorem put_twice {W : World} {B M n : Nat} {N : Int} {V : Vt} (h : CountAt W B M n N V) (r k s : Int) (id : List UInt8) (hid : IdOk id) (hr : 0 ≤ r ∧ r < 12) (hk : k = 0 ∨ k = 1) (hs : 0 ≤ s ∧ s < N) (hz : id ≠ zeroId) (hwr : wfi r) (hwk : wfi k) (hws : wfi s) (hv : (V r k s).isSome = true) :
    Calls Try.prog 21 #[.pointer (some ⟨B, 0, none⟩), .int .i64 r, .int .i64 k, .int .i64 s, .agg (idC id)] W fun e w' => e = .returned (.int .i64 5) ∧ Below W.heap.size W w' := by
  obtain ⟨W0, hW0⟩ : ∃ W0, W.alloc (.cells (idC id) 24) = W0 := ⟨_, rfl⟩
  have hb0 : Below W.heap.size W W0 := by rw [← hW0]; exact (Below.refl _ _).alloc (Nat.le_refl _) _
  have k9 : Blk W0 W.heap.size 24 (idC id) := by rw [← hW0]; exact Blk.new _ _ _
  have h0 := h.below hb0
  have HB0 := Lib.hid hb0
  have HK9 := Lib.hid k9
  have H0 := Lib.hid h0
  have HID := Lib.hid hid
  have c0 := h0.cell0
  have hr0 : decide (r < 0) = false := decide_eq_false (by omega)
  have hr1 : ¬ r < 0 := by omega
  have hr2 : decide (12 ≤ r) = false := decide_eq_false (by omega)
  have hr3 : ¬ 12 ≤ r := by omega
  have hs0 : decide (s < 0) = false := decide_eq_false (by omega)
  have hs1 : ¬ s < 0 := by omega
  have hs2 : decide (N ≤ s) = false := decide_eq_false (by omega)
  have hs3 : ¬ N ≤ s := by omega
  have heq := fun W => eql_idv hid zeroId_ok W
  have hgd := fun x y W => guard_idv x y id zeroId W
  rw [show (id == zeroId) = false from beq_eq_false_iff_ne.2 hz] at heq
  have HW := Lib.hid (And.intro hwr (And.intro hwk hws))
  have HV := Lib.hid hv
  clear hz hwr hwk hws hv
  clear h h0 hb0 k9 hid
  rcases hk with rfl | rfl
  all_goals
    go_enter Try.func21, Try.ntmps21
    go_upto_region 1 with fail
    go_wp2_with (first | (guard_target = wpList _ _ _ (Oper.mk _ (.load 24 _) _ _ _ _ :: _) _ _; refine wpList_load_idv rfl _ rfl W.heap.size id rfl HID.out 24 HK9.out ?_) | (guard_target = wpList _ _ _ (Oper.mk _ (.build 24 _) _ _ _ _ :: _) _ _; refine wpList_build_zero rfl rfl ?_) | (go_at_call 52; refine (has_any H0.out _ _ _ HW.out.1 HW.out.2.1 HW.out.2.2).mono ?_; rw [HV.out]; rintro e W2 ⟨rfl, hb2⟩; have HB2 := Lib.hid hb2; clear hb2))
    all_goals go_ret
    all_goals exact ⟨rfl, HB0.out.trans (HB2.out.mono HB0.out.size)⟩
theorem cell_turned {w w' : World} {b : Nat} (h : w.mapTurned w' b) {g i : Nat} (hg : g ≠ b) : w'.cell? ⟨g, i, none⟩ = w.cell? ⟨g, i, none⟩ := World.cell?_of_block (turned_other h hg)
theorem blk_turned {w w' : World} {b : Nat} (h : w.mapTurned w' b) {g : Nat} (hg : g ≠ b) {t : TypeId} {cs : Array Value} (hk : Blk w g t cs) : Blk w' g t cs := by
  unfold Blk at hk ⊢
  rw [turned_other h hg]
  exact hk
set_option maxRecDepth 100000 in
set_option maxHeartbeats 4000000 in
theorem put_ok0 {W : World} {B M n : Nat} {N : Int} {V : Vt} (h : CountAt W B M n N V) (r s : Int) (id : List UInt8) (hid : IdOk id) (hr : 0 ≤ r ∧ r < 12) (hs : 0 ≤ s ∧ s < N) (hz : id ≠ zeroId) (hwr : wfi r) (hws : wfi s) (hv : (V r 0 s).isSome = false) (hn : n < maxLen) :
    Calls Try.prog 21 #[.pointer (some ⟨B, 0, none⟩), .int .i64 r, .int .i64 0, .int .i64 s, .agg (idC id)] W fun e w' => e = .returned (.int .i64 0) ∧ CountAt w' B M (n + 1) N (putC V r 0 s id) ∧ W.grownBy w' (some M) := by
  obtain ⟨W0, hW0⟩ : ∃ W0, W.alloc (.cells (idC id) 24) = W0 := ⟨_, rfl⟩
  have hb0 : Below W.heap.size W W0 := by rw [← hW0]; exact (Below.refl _ _).alloc (Nat.le_refl _) _
  have k9 : Blk W0 W.heap.size 24 (idC id) := by rw [← hW0]; exact Blk.new _ _ _
  have h0 := h.below hb0
  have HB0 := Lib.hid hb0
  have HK9 := Lib.hid k9
  have H0 := Lib.hid h0
  have HID := Lib.hid hid
  have c0 := h0.cell0
  have HLM : Hid (M < W.heap.size) := Lib.hid h.ltM
  have hr0 : decide (r < 0) = false := decide_eq_false (by omega)
  have hr1 : ¬ r < 0 := by omega
  have hr2 : decide (12 ≤ r) = false := decide_eq_false (by omega)
  have hr3 : ¬ 12 ≤ r := by omega
  have hs0 : decide (s < 0) = false := decide_eq_false (by omega)
  have hs1 : ¬ s < 0 := by omega
  have hs2 : decide (N ≤ s) = false := decide_eq_false (by omega)
  have hs3 : ¬ N ≤ s := by omega
  have heq := fun W => eql_idv hid zeroId_ok W
  have hgd := fun x y W => guard_idv x y id zeroId W
  rw [show (id == zeroId) = false from beq_eq_false_iff_ne.2 hz] at heq
  have HW : Hid (wfi r ∧ wfi 0 ∧ wfi s) := Lib.hid ⟨hwr, by unfold wfi; decide, hws⟩
  have HV := Lib.hid hv
  have HZ := Lib.hid hz
  have HN := Lib.hid hn
  have HKEY := Lib.hid (keyV_some HW.out.1 HW.out.2.1 HW.out.2.2)
  clear h h0 hb0 k9 hid hz hwr hws hv hn
  go_enter Try.func21, Try.ntmps21
  go_upto_region 1 with fail
  go_upto_region 8 with (first | (guard_target = wpList _ _ _ (Oper.mk _ (.load 24 _) _ _ _ _ :: _) _ _; refine wpList_load_idv rfl _ rfl W.heap.size id rfl HID.out 24 HK9.out ?_) | (guard_target = wpList _ _ _ (Oper.mk _ (.build 24 _) _ _ _ _ :: _) _ _; refine wpList_build_zero rfl rfl ?_) | (go_at_call 52; refine (has_any H0.out _ _ _ HW.out.1 HW.out.2.1 HW.out.2.2).mono ?_; rw [HV.out]; rintro e W2 ⟨rfl, hb2⟩; have HB2 := Lib.hid hb2; clear hb2))
  have HC2 := Lib.hid (H0.out.below HB2.out)
  have HB9 := Lib.hid (HK9.out.below HB2.out HK9.out.lt)
  obtain ⟨T, hT, hV⟩ := HC2.out.votes
  have HT := Lib.hid hT
  have HFIN : Hid (∀ W3, MapV Try.prog 117 W3 M (n + 1) (putV T (keyV r 0 s) (idv id)) → W2.drew.mapTurned W3 M → CountAt W3 B M (n + 1) N (putC V r 0 s id) ∧ W.grownBy W3 (some M)) := Lib.hid fun W3 hm ht => ⟨(HC2.out.same (W' := W2.drew) rfl rfl).put HID.out HZ.out hV hm ht, grown_trans (grown_trans (grown_of_below HB0.out _) (grown_of_below HB2.out.drew _)) (grown_of_turned ht)⟩
  clear hT hV
  refine wp_region_held_drew (S := fun W' => W'.cell? ⟨B, 1, none⟩ = some (.map (some M)) ∧ Blk W' W.heap.size 24 (idC id)) (by kernel_rfl) ?_ (fun hHeld => ?_)
  · exact ⟨HC2.out.cell1, HB9.out⟩
  refine tkH (v := ?_) 0 ⟨some 43, _, _, _, _, _⟩ rfl (Or.inl ⟨by rfl, ?_⟩) ?_
  rotate_left
  · intro w hSw; (try dsimp only at hSw); go_simp; try (with_reducible rfl)
  try simp only [Act.put, nz1, nz2, nz3]
  refine tkH (v := ?_) 1 ⟨some 44, _, _, _, _, _⟩ rfl (Or.inl ⟨by rfl, ?_⟩) ?_
  rotate_left
  · intro w hSw; (try dsimp only at hSw); go_simp; try (with_reducible rfl)
  try simp only [Act.put, nz1, nz2, nz3]
  refine tkH (v := ?_) 2 ⟨some 45, _, _, _, _, _⟩ rfl (Or.inl ⟨by rfl, ?_⟩) ?_
  rotate_left
  · intro w hSw; (try dsimp only at hSw); go_simp; try (with_reducible rfl)
  try simp only [Act.put, nz1, nz2, nz3]
  refine tkH (v := (.map (some M))) 3 ⟨some 46, _, _, _, _, _⟩ rfl (yields_one (by rfl) 111 _ rfl ⟨B, 1, none⟩ rfl _ _ (fun _ hS => hS.1) Try.underlying111 rfl) ?_
  try simp only [Act.put, nz1, nz2, nz3]
  refine tkH (v := ?_) 4 ⟨some 47, _, _, _, _, _⟩ rfl (Or.inl ⟨by rfl, ?_⟩) ?_
  rotate_left
  · intro w hSw; (try dsimp only at hSw); go_simp; try (with_reducible rfl)
  try simp only [Act.put, nz1, nz2, nz3]
  refine tkH (v := ?_) 5 ⟨some 48, _, _, _, _, _⟩ rfl (Or.inl ⟨by rfl, ?_⟩) ?_
  rotate_left
  · intro w hSw; (try dsimp only at hSw); go_simp; try (with_reducible rfl)
  try simp only [Act.put, nz1, nz2, nz3]
  refine tkH (v := ?_) 6 ⟨some 49, _, _, _, _, _⟩ rfl (Or.inl ⟨by rfl, ?_⟩) ?_
  rotate_left
  · intro w hSw; (try dsimp only at hSw); go_simp; try (with_reducible rfl)
  try simp only [Act.put, nz1, nz2, nz3]
  refine tkH (v := ?_) 7 ⟨some 50, _, _, _, _, _⟩ rfl (Or.inl ⟨by rfl, ?_⟩) ?_
  rotate_left
  · intro w hSw; (try dsimp only at hSw); go_simp; try (with_reducible rfl)
  try simp only [Act.put, nz1, nz2, nz3]
  refine tkH (v := (idv id)) 8 ⟨some 51, _, _, _, _, _⟩ rfl (yields_idv (by rfl) _ rfl W.heap.size rfl 24 id HID.out (fun _ hS => hS.2)) ?_
  try simp only [Act.put, nz1, nz2, nz3]
  refine wpAnyH_ready (rs := [9]) (by kernel_rfl) (by simp) ?_
  refine (AllReadyH.cons (o := ⟨none, _, _, _, _, _⟩) rfl (fun K hK => ?_) AllReadyH.nil)
  (try rw [if_pos (by rfl)])
  refine oper_store_V _ _ _ _ rfl 117 24 cnt_law Try.underlying111 M n T rfl HT.out HN.out (keyV r 0 s) (idv id) rfl rfl HKEY.out ?_
  intro W3 hm3 ht3
  try dsimp only
  refine hK.out _ _ (⟨by rw [cell_turned ht3 HC2.out.ne]; exact HC2.out.cell1, blk_turned ht3 (fun h => by have := HLM.out; omega) HB9.out⟩) (fun hHeld => ?_)
  clear hK K
  try simp only [Act.put]
  refine wpAnyH_done (by kernel_rfl) ?_ _
  go_wp2_with fail
  go_ret
  exact ⟨rfl, HFIN.out W3 hm3 ht3⟩
set_option maxRecDepth 100000 in
set_option maxHeartbeats 4000000 in
theorem put_ok1 {W : World} {B M n : Nat} {N : Int} {V : Vt} (h : CountAt W B M n N V) (r s : Int) (id : List UInt8) (hid : IdOk id) (hr : 0 ≤ r ∧ r < 12) (hs : 0 ≤ s ∧ s < N) (hz : id ≠ zeroId) (hwr : wfi r) (hws : wfi s) (hv : (V r 1 s).isSome = false) (hn : n < maxLen) :
    Calls Try.prog 21 #[.pointer (some ⟨B, 0, none⟩), .int .i64 r, .int .i64 1, .int .i64 s, .agg (idC id)] W fun e w' => e = .returned (.int .i64 0) ∧ CountAt w' B M (n + 1) N (putC V r 1 s id) ∧ W.grownBy w' (some M) := by
  obtain ⟨W0, hW0⟩ : ∃ W0, W.alloc (.cells (idC id) 24) = W0 := ⟨_, rfl⟩
  have hb0 : Below W.heap.size W W0 := by rw [← hW0]; exact (Below.refl _ _).alloc (Nat.le_refl _) _
  have k9 : Blk W0 W.heap.size 24 (idC id) := by rw [← hW0]; exact Blk.new _ _ _
  have h0 := h.below hb0
  have HB0 := Lib.hid hb0
  have HK9 := Lib.hid k9
  have H0 := Lib.hid h0
  have HID := Lib.hid hid
  have c0 := h0.cell0
  have HLM : Hid (M < W.heap.size) := Lib.hid h.ltM
  have hr0 : decide (r < 0) = false := decide_eq_false (by omega)
  have hr1 : ¬ r < 0 := by omega
  have hr2 : decide (12 ≤ r) = false := decide_eq_false (by omega)
  have hr3 : ¬ 12 ≤ r := by omega
  have hs0 : decide (s < 0) = false := decide_eq_false (by omega)
  have hs1 : ¬ s < 0 := by omega
  have hs2 : decide (N ≤ s) = false := decide_eq_false (by omega)
  have hs3 : ¬ N ≤ s := by omega
  have heq := fun W => eql_idv hid zeroId_ok W
  have hgd := fun x y W => guard_idv x y id zeroId W
  rw [show (id == zeroId) = false from beq_eq_false_iff_ne.2 hz] at heq
  have HW : Hid (wfi r ∧ wfi 1 ∧ wfi s) := Lib.hid ⟨hwr, by unfold wfi; decide, hws⟩
  have HV := Lib.hid hv
  have HZ := Lib.hid hz
  have HN := Lib.hid hn
  have HKEY := Lib.hid (keyV_some HW.out.1 HW.out.2.1 HW.out.2.2)
  clear h h0 hb0 k9 hid hz hwr hws hv hn
  go_enter Try.func21, Try.ntmps21
  go_upto_region 1 with fail
  go_upto_region 8 with (first | (guard_target = wpList _ _ _ (Oper.mk _ (.load 24 _) _ _ _ _ :: _) _ _; refine wpList_load_idv rfl _ rfl W.heap.size id rfl HID.out 24 HK9.out ?_) | (guard_target = wpList _ _ _ (Oper.mk _ (.build 24 _) _ _ _ _ :: _) _ _; refine wpList_build_zero rfl rfl ?_) | (go_at_call 52; refine (has_any H0.out _ _ _ HW.out.1 HW.out.2.1 HW.out.2.2).mono ?_; rw [HV.out]; rintro e W2 ⟨rfl, hb2⟩; have HB2 := Lib.hid hb2; clear hb2))
  have HC2 := Lib.hid (H0.out.below HB2.out)
  have HB9 := Lib.hid (HK9.out.below HB2.out HK9.out.lt)
  obtain ⟨T, hT, hV⟩ := HC2.out.votes
  have HT := Lib.hid hT
  have HFIN : Hid (∀ W3, MapV Try.prog 117 W3 M (n + 1) (putV T (keyV r 1 s) (idv id)) → W2.drew.mapTurned W3 M → CountAt W3 B M (n + 1) N (putC V r 1 s id) ∧ W.grownBy W3 (some M)) := Lib.hid fun W3 hm ht => ⟨(HC2.out.same (W' := W2.drew) rfl rfl).put HID.out HZ.out hV hm ht, grown_trans (grown_trans (grown_of_below HB0.out _) (grown_of_below HB2.out.drew _)) (grown_of_turned ht)⟩
  clear hT hV
  refine wp_region_held_drew (S := fun W' => W'.cell? ⟨B, 1, none⟩ = some (.map (some M)) ∧ Blk W' W.heap.size 24 (idC id)) (by kernel_rfl) ?_ (fun hHeld => ?_)
  · exact ⟨HC2.out.cell1, HB9.out⟩
  refine tkH (v := ?_) 0 ⟨some 43, _, _, _, _, _⟩ rfl (Or.inl ⟨by rfl, ?_⟩) ?_
  rotate_left
  · intro w hSw; (try dsimp only at hSw); go_simp; try (with_reducible rfl)
  try simp only [Act.put, nz1, nz2, nz3]
  refine tkH (v := ?_) 1 ⟨some 44, _, _, _, _, _⟩ rfl (Or.inl ⟨by rfl, ?_⟩) ?_
  rotate_left
  · intro w hSw; (try dsimp only at hSw); go_simp; try (with_reducible rfl)
  try simp only [Act.put, nz1, nz2, nz3]
  refine tkH (v := ?_) 2 ⟨some 45, _, _, _, _, _⟩ rfl (Or.inl ⟨by rfl, ?_⟩) ?_
  rotate_left
  · intro w hSw; (try dsimp only at hSw); go_simp; try (with_reducible rfl)
  try simp only [Act.put, nz1, nz2, nz3]
  refine tkH (v := (.map (some M))) 3 ⟨some 46, _, _, _, _, _⟩ rfl (yields_one (by rfl) 111 _ rfl ⟨B, 1, none⟩ rfl _ _ (fun _ hS => hS.1) Try.underlying111 rfl) ?_
  try simp only [Act.put, nz1, nz2, nz3]
  refine tkH (v := ?_) 4 ⟨some 47, _, _, _, _, _⟩ rfl (Or.inl ⟨by rfl, ?_⟩) ?_
  rotate_left
  · intro w hSw; (try dsimp only at hSw); go_simp; try (with_reducible rfl)
  try simp only [Act.put, nz1, nz2, nz3]
  refine tkH (v := ?_) 5 ⟨some 48, _, _, _, _, _⟩ rfl (Or.inl ⟨by rfl, ?_⟩) ?_
  rotate_left
  · intro w hSw; (try dsimp only at hSw); go_simp; try (with_reducible rfl)
  try simp only [Act.put, nz1, nz2, nz3]
  refine tkH (v := ?_) 6 ⟨some 49, _, _, _, _, _⟩ rfl (Or.inl ⟨by rfl, ?_⟩) ?_
  rotate_left
  · intro w hSw; (try dsimp only at hSw); go_simp; try (with_reducible rfl)
  try simp only [Act.put, nz1, nz2, nz3]
  refine tkH (v := ?_) 7 ⟨some 50, _, _, _, _, _⟩ rfl (Or.inl ⟨by rfl, ?_⟩) ?_
  rotate_left
  · intro w hSw; (try dsimp only at hSw); go_simp; try (with_reducible rfl)
  try simp only [Act.put, nz1, nz2, nz3]
  refine tkH (v := (idv id)) 8 ⟨some 51, _, _, _, _, _⟩ rfl (yields_idv (by rfl) _ rfl W.heap.size rfl 24 id HID.out (fun _ hS => hS.2)) ?_
  try simp only [Act.put, nz1, nz2, nz3]
  refine wpAnyH_ready (rs := [9]) (by kernel_rfl) (by simp) ?_
  refine (AllReadyH.cons (o := ⟨none, _, _, _, _, _⟩) rfl (fun K hK => ?_) AllReadyH.nil)
  (try rw [if_pos (by rfl)])
  refine oper_store_V _ _ _ _ rfl 117 24 cnt_law Try.underlying111 M n T rfl HT.out HN.out (keyV r 1 s) (idv id) rfl rfl HKEY.out ?_
  intro W3 hm3 ht3
  try dsimp only
  refine hK.out _ _ (⟨by rw [cell_turned ht3 HC2.out.ne]; exact HC2.out.cell1, blk_turned ht3 (fun h => by have := HLM.out; omega) HB9.out⟩) (fun hHeld => ?_)
  clear hK K
  try simp only [Act.put]
  refine wpAnyH_done (by kernel_rfl) ?_ _
  go_wp2_with fail
  go_ret
  exact ⟨rfl, HFIN.out W3 hm3 ht3⟩
theorem put_any {W : World} {B M n : Nat} {N : Int} {V : Vt} (h : CountAt W B M n N V) (r k s : Int) (id : List UInt8) (hid : IdOk id) (hwr : wfi r) (hwk : wfi k) (hws : wfi s) (hn : n < maxLen) :
    Calls Try.prog 21 #[.pointer (some ⟨B, 0, none⟩), .int .i64 r, .int .i64 k, .int .i64 s, idv id] W fun e w' => e = .returned (.int .i64 (putCode N V r k s id)) ∧ CountAt w' B M (n + 1) N (putT N V r k s id) ∧ W.grownBy w' (some M) := by
  have bad : okPut N r k s id = false → ∀ (K : Ending → World → Prop), K = (fun e w' => e = Ending.returned (.int .i64 1) ∧ Below W.heap.size W w') → Calls Try.prog 21 #[.pointer (some ⟨B, 0, none⟩), .int .i64 r, .int .i64 k, .int .i64 s, idv id] W K → Calls Try.prog 21 #[.pointer (some ⟨B, 0, none⟩), .int .i64 r, .int .i64 k, .int .i64 s, idv id] W fun e w' => e = .returned (.int .i64 (putCode N V r k s id)) ∧ CountAt w' B M (n + 1) N (putT N V r k s id) ∧ W.grownBy w' (some M) := by
    rintro hb _ rfl hc
    refine hc.mono ?_
    rintro e w' ⟨rfl, hb'⟩
    unfold putCode putT
    rw [if_pos hb, if_neg (by rw [hb]; simp)]
    exact ⟨rfl, (h.below hb').mono (by omega), grown_of_below hb' _⟩
  by_cases hr : 0 ≤ r ∧ r < 12
  · by_cases hk : k = 0 ∨ k = 1
    · by_cases hs : 0 ≤ s ∧ s < N
      · by_cases hz : id = zeroId
        · exact bad (by unfold okPut; rw [hz]; simp) _ rfl (put_zero h r k s id hid hr hk hs hz)
        · have hok : okPut N r k s id = true := by
            unfold okPut
            simp only [Bool.and_eq_true, Bool.or_eq_true, decide_eq_true_eq, Bool.not_eq_true', beq_eq_false_iff_ne]
            exact ⟨⟨⟨⟨⟨hr.1, hr.2⟩, hk⟩, hs.1⟩, hs.2⟩, hz⟩
          cases hv : (V r k s).isSome with
          | true =>
            refine (put_twice h r k s id hid hr hk hs hz hwr hwk hws hv).mono ?_
            rintro e w' ⟨rfl, hb'⟩
            unfold putCode putT
            rw [if_neg (by rw [hok]; simp), if_pos hv, if_neg (by rw [hv]; simp)]
            exact ⟨rfl, (h.below hb').mono (by omega), grown_of_below hb' _⟩
          | false =>
            have e1 : putCode N V r k s id = 0 := by
              unfold putCode
              rw [if_neg (by rw [hok]; simp), if_neg (by rw [hv]; simp)]
            have e2 : putT N V r k s id = putC V r k s id := by
              unfold putT
              rw [if_pos ⟨hok, hv⟩]
            rw [e1, e2]
            rcases hk with rfl | rfl
            · exact put_ok0 h r s id hid hr hs hz hwr hws hv hn
            · exact put_ok1 h r s id hid hr hs hz hwr hws hv hn
      · exact bad (by unfold okPut; rw [← Bool.not_eq_true]; simp only [Bool.and_eq_true, decide_eq_true_eq]; omega) _ rfl (put_who h r k s id hid hr hk (by omega))
    · exact bad (by unfold okPut; rw [← Bool.not_eq_true]; simp only [Bool.and_eq_true, Bool.or_eq_true, decide_eq_true_eq]; omega) _ rfl (put_kind h r k s id hid hr (by omega))
  · exact bad (by unfold okPut; rw [← Bool.not_eq_true]; simp only [Bool.and_eq_true, decide_eq_true_eq]; omega) _ rfl (put_round h r k s id hid (by omega))
end Go.Proofs.Ytbgojlcciealiaa
