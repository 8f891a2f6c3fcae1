/-
  Layer 21: the document's post: its messages as rows, Put, Take, Twice; a message as the document has it. In whatever memory. No condition.
  Layer 21: the document's post: Take, Twice; the program's messages and the document's. In whatever memory. No condition.
-/
import Derived.Test.YtekakelkjnhehaaPstTake
import Derived.Great.Walk
import Derived.Deep.RegionHeld3
namespace Go.Proofs.Ytekakelkjnhehaa
open Go Go.RowKit

/-- A message as the document has it. -/
def refC (m : MailS) : List Value := [.bool m.fc, .bool m.tc, .int .i64 m.fn, .int .i64 m.tn, .string ⟨m.bs.toArray⟩]
def refsC (l : List MailS) : List (List Value) := l.map refC
def refV (m : MailS) : Value := .agg #[.bool m.fc, .bool m.tc, .int .i64 m.fn, .int .i64 m.tn, .string ⟨m.bs.toArray⟩]
theorem refsC_els (l : List MailS) : ElsC 5 (refsC l) := fun x hx => by
  obtain ⟨m, _, rfl⟩ := List.mem_map.1 hx
  exact ⟨rfl, fun u hu => by
    simp only [refC, List.mem_cons, List.not_mem_nil, or_false] at hu
    rcases hu with rfl | rfl | rfl | rfl | rfl <;> rfl⟩
theorem refsC_append (l m : List MailS) : refsC (l ++ m) = refsC l ++ refsC m := by unfold refsC; exact List.map_append
theorem refsC_length (l : List MailS) : (refsC l).length = l.length := by unfold refsC; exact List.length_map _
theorem elRef : ElC Try.prog 45 27 5 40 := ⟨Try.underlying27, by kernel_rfl, by omega, by omega⟩
/-- A slice of messages as the document has them, in blocks before B. -/
def RdRef (W : World) (B : Nat) (v : Value) (l : List MailS) : Prop := RdC 5 W (fun b => b < B) v (refsC l)
section
variable {W W' : World} {B B' : Nat} {v : Value} {l : List MailS}
theorem RdRef.below (h : RdRef W B v l) (hb : Below B W W') : RdRef W' B v l := h.kept fun a _x ha hx => (hb.cell (p := a) ha).trans hx
theorem RdRef.mono (h : RdRef W B v l) (hB : B ≤ B') : RdRef W B' v l := RdC.mono h fun _b hb => Nat.lt_of_lt_of_le hb hB
theorem RdRef.form (h : RdRef W B v l) : ∃ A c, v = .slice A l.length c ∧ l.length ≤ c := by
  have := RdC.form h
  rw [refsC_length] at this
  exact this
end
theorem ref_fill (a b : Bool) (c d : Int) (s : ByteArray) : Try.prog.builtSlice 45 1 [(0, .agg #[.bool a, .bool b, .int .i64 c, .int .i64 d, .string s])] = some #[.bool a, .bool b, .int .i64 c, .int .i64 d, .string s] := by kernel_rfl
theorem wpList_build_ref {ops : Array Oper} {rest : List Oper} {o : Oper} {a : Act} {w : World} {Q : Exit → Act → World → Prop} (hgd : o.guard = none) (x : Operand) (ho : o.op = .buildSlice 27 1 #[(0, x)]) (m : MailS) (hx : a.eval x = refV m)
    (h : wpList Try.prog ops Q rest (a.put o.dst (.slice (some ⟨w.heap.size, 0, none⟩) 1 1)) (w.alloc (.cells (refC m).toArray 45))) : wpList Try.prog ops Q (o :: rest) a w :=
  Great.wpList_buildSliceTo hgd 27 45 1 _ ho _ rfl _ rfl Try.underlying27 (refC m).toArray (by
    have hp : ((#[(0, x)] : Array (Nat × Operand)).map fun (i, x) => (i, a.eval x)).toList = [(0, refV m)] := by simp [hx]
    rw [hp]
    exact ref_fill _ _ _ _ _) h
/-- Onto nothing at all: a row of one's own. -/
theorem ref_from {w : World} {A : Option Addr} {n c : Nat} {l : List MailS} (h : RdRef w w.heap.size (.slice A n c) l) (hl : l.length ≤ 900000) :
    ∃ v' w', (Builtin.append_ #[27, 27] 27 #[.slice (some ⟨w.heap.size, 0, none⟩) 0 0, .slice A n c]).run Try.prog (w.alloc (.cells #[] 45)) = .ok v' w' ∧
      w'.ownsRow w.heap.size 45 5 v' l.length (refsC l).flatten ∧ Below w.heap.size w w' := by
  have hb : Below w.heap.size w (w.alloc (.cells #[] 45)) := (Below.refl _ _).alloc (Nat.le_refl _) _
  have own0 : (w.alloc (.cells #[] 45)).ownsRow w.heap.size 45 5 (.slice (some ⟨w.heap.size, 0, none⟩) 0 0) 0 (refsC []).flatten := ⟨rfl, .inr ⟨w.heap.size, 0, #[], rfl, Nat.le_refl _, heap_alloc_new w _, Nat.le_refl _, by unfold maxLen; omega, rfl, rfl⟩⟩
  have hr := h.below hb
  obtain ⟨A', c', e, _⟩ := hr.form
  injection e with e1 e2 e3
  obtain ⟨v', w', hrun, h1, h2, h3⟩ := app_own elRef (B := w.heap.size) (w := w.alloc (.cells #[] 45)) (by simp) own0 hr (by omega)
  rw [← refsC_append, List.nil_append, Nat.zero_add, e2] at h1
  exact ⟨v', w', hrun, h1, hb.grown h2 (by simp) fun k hk => by
    simp only [Value.ownBlock, Option.some.injEq] at hk
    omega⟩
/-- One more. -/
theorem ref_more {w : World} {B : Nat} (hB : B ≤ w.heap.size) {v : Value} {l : List MailS} (h : w.ownsRow B 45 5 v l.length (refsC l).flatten) (hl : l.length ≤ 900000) (m : MailS) :
    ∃ v' w', (Builtin.append_ #[27, 27] 27 #[v, .slice (some ⟨w.heap.size, 0, none⟩) 1 1]).run Try.prog (w.alloc (.cells (refC m).toArray 45)) = .ok v' w' ∧
      w'.ownsRow B 45 5 v' (l ++ [m]).length (refsC (l ++ [m])).flatten ∧ Below B w w' := by
  have hb : Below w.heap.size w (w.alloc (.cells (refC m).toArray 45)) := (Below.refl _ _).alloc (Nat.le_refl _) _
  have hr := rdC_one (k := 5) (w := w.alloc (.cells (refC m).toArray 45)) (Blk.new w 45 (refC m).toArray) (refsC_els [m])
  obtain ⟨v', w', hrun, h1, h2, h3⟩ := app_own elRef (B := B) (w := w.alloc (.cells (refC m).toArray 45)) (by simp; omega) (ownsRow_kept h hb) hr (by omega)
  refine ⟨v', w', hrun, ?_, (hb.mono hB).grown h2 (by simp; omega) fun i hi => (h.lt i hi).1⟩
  rw [refsC_append, List.length_append]
  exact h1
/-- Some more. -/
theorem ref_join {w : World} {B C : Nat} (hB : B ≤ w.heap.size) {v : Value} {l l' : List MailS} (h : w.ownsRow B 45 5 v l.length (refsC l).flatten) {A : Option Addr} {n c : Nat} (h' : RdRef w C (.slice A n c) l') (hl : l.length + l'.length ≤ 900000) :
    ∃ v' w', (Builtin.append_ #[27, 27] 27 #[v, .slice A n c]).run Try.prog w = .ok v' w' ∧
      w'.ownsRow B 45 5 v' (l ++ l').length (refsC (l ++ l')).flatten ∧ Below B w w' := by
  obtain ⟨A', c', e, _⟩ := RdRef.form h'
  injection e with e1 e2 e3
  obtain ⟨v', w', hrun, h1, h2, h3⟩ := app_own elRef (B := B) hB h h' (by omega)
  refine ⟨v', w', hrun, ?_, (Below.refl _ _).grown h2 hB fun i hi => (h.lt i hi).1⟩
  rw [refsC_append, List.length_append, ← e2]
  exact h1
set_option maxRecDepth 100000 in
set_option maxHeartbeats 8000000 in
theorem refPut_any {ok : Nat → Prop} (l : List MailS) (m : MailS) (v : Value) (w : World) (h0 : RdC 5 w ok v (refsC l)) (hok : ∀ b, ok b → b < w.heap.size) (hl : l.length ≤ 600) :
    Calls Try.prog 8 #[v, refV m] w fun e w' => ∃ v', e = .returned (.tuple #[v', .int .i64 (putE l)]) ∧ RdC 5 w' (fun b => ok b ∨ (w.heap.size ≤ b ∧ b < w'.heap.size)) v' (refsC (putM l m)) ∧ Below w.heap.size w w' := by
  have h : RdRef w w.heap.size v l := RdC.mono h0 hok
  obtain ⟨A, c, rfl, _⟩ := h.form
  obtain ⟨n, hn⟩ : ∃ n, l.length = n := ⟨_, rfl⟩
  have HN := Lib.hid hn
  obtain ⟨W1, hW1⟩ : ∃ z, w.alloc (.cells (refC m).toArray 45) = z := ⟨_, rfl⟩
  have hb1 : Below w.heap.size w W1 := by rw [← hW1]; exact (Below.refl _ _).alloc (Nat.le_refl _) _
  have k1 : Blk W1 w.heap.size 45 (refC m).toArray := by rw [← hW1]; exact Blk.newAt _ _ rfl rfl
  have h1 := (h.below hb1).mono hb1.size
  have h01 : RdC 5 W1 (fun b => ok b ∨ (w.heap.size ≤ b ∧ b < W1.heap.size)) (.slice A l.length c) (refsC l) := (RdC.kept h0 fun a x ha hx => (hb1.cell (p := a) (hok _ ha)).trans hx).mono fun b hb => .inl hb
  have H1 := Lib.hid (And.intro hb1 (And.intro k1 h01))
  have HW1 := Lib.hid hW1
  have HV : Hid (refV m = .agg (refC m).toArray) := Lib.hid rfl
  by_cases h6 : 600 ≤ n
  · have e1 : decide ((n : Int) ≥ 600) = true := decide_eq_true (by omega)
    have e2 : decide (600 ≤ (n : Int)) = true := decide_eq_true (by omega)
    have e3 : decide (600 ≤ n) = true := decide_eq_true h6
    have HP : Hid (putM l m = l ∧ putE l = 3) := Lib.hid (by unfold putM putE; rw [if_pos (by omega), if_pos (by omega)]; exact ⟨rfl, rfl⟩)
    rw [HP.out.1, HP.out.2, hn]
    rw [hn] at hl
    clear h h0 h01 hok hn hb1 k1 h1 hW1
    rw [HV.out]
    generalize (refC m).toArray = cs at HW1 ⊢
    go_enter Try.func8, Try.ntmps8
    go_upto_region 1 with fail
    rw [HW1.out]
    go_wp2
    go_ret2
    exact ⟨_, rfl, by rw [← HN.out]; exact H1.out.2.2, H1.out.1⟩
  · have e1 : decide ((n : Int) ≥ 600) = false := decide_eq_false (by omega)
    have e2 : decide (600 ≤ (n : Int)) = false := decide_eq_false (by omega)
    have e3 : decide (600 ≤ n) = false := decide_eq_false h6
    have HP : Hid (putM l m = l ++ [m] ∧ putE l = 0) := Lib.hid (by unfold putM putE; rw [if_neg (by omega), if_neg (by omega)]; exact ⟨rfl, rfl⟩)
    obtain ⟨v2, W2, hrun2, own2, hb2⟩ := ref_from h1 (by omega)
    obtain ⟨v3, W3, hrun3, own3, hb3⟩ := ref_more hb2.size own2 (by omega) m
    have hb23 := hb1.trans ((hb2.trans hb3).mono hb1.size)
    have k2 := k1.below hb2 k1.lt
    have HF := Lib.hid (And.intro ((rdC_own own3 (refsC_els _) (refsC_length _) (by rw [List.length_append, List.length_singleton]; omega)).mono (ok' := fun b => ok b ∨ (w.heap.size ≤ b ∧ b < W3.heap.size)) fun b hb => .inr ⟨Nat.le_trans hb1.size hb.1, hb.2.1⟩) (And.intro hb23 k2))
    rw [hn] at hrun2
    have HR2 := Lib.hid hrun2
    have HR3 := Lib.hid hrun3
    rw [HP.out.1, HP.out.2, hn]
    clear h h0 h01 hok hn hb1 k1 h1 hW1 hrun2 own2 hb2 hrun3 own3 hb3 hb23 k2 hl
    rw [HV.out]
    go_enter Try.func8, Try.ntmps8
    go_upto_region 1 with fail
    rw [HW1.out]
    go_wp2_with (first
      | (at_builtin; refine wpList_append_run rfl (.tmp 11) (.tmp 12) _ _ rfl _ _ rfl rfl _ _ HR2.out ?_)
      | (at_builtin; refine wpList_append_run rfl (.tmp 14) (.tmp 16) _ _ rfl _ _ rfl rfl _ _ HR3.out ?_)
      | (guard_target = wpList _ _ _ (Oper.mk _ (.load 45 _) _ _ _ _ :: _) _ _; refine wpList_load_row rfl 45 _ rfl w.heap.size rfl 45 (refC m).toArray (0, 0) _ HF.out.2.2 Try.underlying45 rfl (by kernel_rfl) ?_)
      | (guard_target = wpList _ _ _ (Oper.mk _ (.buildSlice _ 1 _) _ _ _ _ :: _) _ _; refine wpList_build_ref rfl _ rfl m rfl ?_))
    go_ret2
    exact ⟨v3, rfl, HF.out.1, HF.out.2.1⟩
theorem ref_built : (Try.prog.built 45 []).getD #[] = (refC zeroM).toArray := by kernel_rfl
theorem ref_some : (Try.prog.built 45 []).isSome = true := by kernel_rfl
theorem index_ref (ad : Addr) (n c i : Nat) (hi : i < n) (w : World) : (Instr.indexAt 27 (.slice (some ad) n c) (.int .i64 (i : Int))).run Try.prog w = .ok (.pointer (some (ad.add (i * 5)))) w := by
  have hk1 : (i : Int) < (n : Int) := by omega
  have hsz : (sizeOf 45).run Try.prog w = .ok 5 w := by kernel_rfl
  simp [Instr.indexAt, asIntOf, Sem.run_bind, run_underlying Try.underlying27]
  intro hh
  omega
theorem RdRef.here {W : World} {B : Nat} {v : Value} {l : List MailS} (h : RdRef W B v l) {i : Nat} {m : MailS} (hm : l[i]? = some m) : ∃ ad c, v = .slice (some ad) l.length c ∧ ∀ W', Below B W W' → (Instr.loadAt 45 (.pointer (some (ad.add (i * 5))))).run Try.prog W' = .ok (refV m) W' := by
  obtain ⟨ad, c, hv, hl, hok, hc⟩ := RdC.here h (j := i) (x := refC m) (by unfold refsC; rw [List.getElem?_map, hm]; rfl)
  rw [refsC_length] at hv
  refine ⟨ad, c, hv, fun W' hb => ?_⟩
  refine run_load_el W' 45 _ Try.underlying45 rfl _ (refC m) (by kernel_rfl) fun i hi => ?_
  have h5 := hc i hi
  rw [el_some hl hi] at h5 ⊢
  exact (hb.cell (p := (ad.add _).add i) (by rw [block_add, block_add]; exact hok)).trans h5
end Go.Proofs.Ytekakelkjnhehaa
namespace Go.Proofs.Ytekakelkjnhehaa
open Go Go.RowKit
attribute [local go_sem] Oper.semAt_some

theorem yields_loadA {P : Program} {ops : Array Oper} {S : World → Prop} {op : Oper} {a : Act} (hw : Region.wanted op (yielded ops a.tmps) = true) (ty : TypeId) (x : Operand) (ho : op.op = .load ty x) (p : Value) (hx : a.eval x = p) (v : Value) (hS : ∀ w, S w → (Instr.loadAt ty p).run P w = .ok v w) : YieldsIf P ops S op v a :=
  .inl ⟨hw, fun w hw' => by
    unfold execOp
    simp only [ho, hx, Sem.run_bind, hS w hw', Sem.run_pure, Result.andThen_ok]⟩
theorem yields_binA {P : Program} {ops : Array Oper} {S : World → Prop} {op : Oper} {a : Act} (hw : Region.wanted op (yielded ops a.tmps) = true) (bop : BinOp) (t rt : TypeId) (x y : Operand) (ho : op.op = .binOp bop t x y rt)
    (vx vy : Value) (hx : a.eval x = vx) (hy : a.eval y = vy) (v : Value) (hg : ∀ w, (eqGuard bop t x y vx vy).run P w = .ok () w) (hrun : ∀ w, (binOp bop t vx vy).run P w = .ok v w) : YieldsIf P ops S op v a :=
  .inl ⟨hw, fun w _ => by
    unfold execOp
    simp only [ho, hx, hy, Sem.run_bind, hg, hrun, Sem.run_pure, Result.andThen_ok]⟩
theorem int_addJ (x y z : Int) (hz : x + y = z) (h1 : -1000000000 ≤ z) (h2 : z ≤ 1000000000) (w : World) : (binOp .add 3 (.int .i64 x) (.int .i64 y)).run Try.prog w = .ok (.int .i64 z) w := by
  subst hz
  rw [Go.binOp_add]
  go_simp
  rw [IntWalk.i64_left, IntWalk.wrap64_in _ (by omega)]
theorem results_tct {P : Program} {fn : Func} {p q r : Tmp} {ty : TypeId} (h : fn.results = #[.tmp r, .cell p ty, .tmp q]) (tmps : Array Value) (w : World) (g : Nat) (t : TypeId) (cs : Array Value) (d : TypeDesc)
    (hp : tmps.getD p undef = .pointer (some ⟨g, 0, none⟩)) (hg : Blk w g t cs)
    (hu : P.underlying ty = some d) (hd : (match d with | .struct _ | .array _ _ => true | _ => false) = true) (hi : (P.info? ty).map (·.size) = some cs.size) :
    (results fn tmps).run P w = .ok (.tuple #[tmps.getD r undef, .agg cs, tmps.getD q undef]) w := by
  have hp' : tmps[p]?.getD undef = .pointer (some ⟨g, 0, none⟩) := by simpa using hp
  simp [results, h, hp', asAddr, run_loadVar_row w g t ty cs (0, 0) d hg hu hd hi]
theorem ref_end {F : Func} {p q r : Tmp} (hF : F.results = #[.tmp q, .cell p 45, .tmp r]) {R : Ending → World → Prop} {a : Act} {w : World} (g : Nat) (m : MailS) (hp : a.tmps.getD p undef = .pointer (some ⟨g, 0, none⟩)) (hg : Blk w g 45 (refC m).toArray) (hd : a.defers = [])
    (h : R (.returned (.tuple #[a.tmps.getD q undef, refV m, a.tmps.getD r undef])) w) : bodyPost Try.prog F R .ret a w :=
  bodyPost_ret (results_tct hF _ _ g _ _ _ hp hg Try.underlying45 rfl (by kernel_rfl)) hd h
theorem ref_end1 {F : Func} {p : Tmp} (hF : F.results = #[.cell p 45]) {R : Ending → World → Prop} {a : Act} {w : World} (g : Nat) (m : MailS) (hp : a.tmps.getD p undef = .pointer (some ⟨g, 0, none⟩)) (hg : Blk w g 45 (refC m).toArray) (hd : a.defers = [])
    (h : R (.returned (refV m)) w) : bodyPost Try.prog F R .ret a w :=
  bodyPost_ret (results_cell_row (p := p) hF _ _ g _ _ (0, 0) _ hp hg Try.underlying45 rfl (by kernel_rfl)) hd h
theorem ref_all (m : MailS) : (refC m).toArray.all (·.oneCell') = true := by
  rw [Array.all_eq_true_iff_forall_mem]
  intro x hx
  simp only [refC, List.mem_toArray, List.mem_cons, List.not_mem_nil, or_false] at hx
  rcases hx with rfl | rfl | rfl | rfl | rfl <;> rfl
theorem getD_at {l : List MailS} {k : Nat} (hk : k < l.length) : l[k]? = some (atM l (k : Int)) := by
  have hy : isAt l (k : Int) := ⟨by omega, by omega⟩
  unfold atM
  rw [if_pos hy, Int.toNat_natCast, List.getD_eq_getElem?_getD, List.getElem?_eq_getElem hk]
  rfl
theorem refs_take (l : List MailS) (k : Nat) : refsC (l.take k) = (refsC l).take k := by unfold refsC; exact List.map_take
theorem refs_drop (l : List MailS) (k : Nat) : refsC (l.drop k) = (refsC l).drop k := by unfold refsC; exact List.map_drop
set_option maxRecDepth 100000 in
set_option maxHeartbeats 8000000 in
theorem refTake_any {ok : Nat → Prop} (l : List MailS) (i : Int) (v : Value) (w : World) (h0 : RdC 5 w ok v (refsC l)) (hok : ∀ b, ok b → b < w.heap.size) (hl : l.length ≤ 600) :
    Calls Try.prog 12 #[v, .int .i64 i] w fun e w' => ∃ v', e = .returned (.tuple #[v', refV (atM l i), .int .i64 (codeM l i)]) ∧ RdC 5 w' (fun b => ok b ∨ (w.heap.size ≤ b ∧ b < w'.heap.size)) v' (refsC (takeM l i)) ∧ Below w.heap.size w w' := by
  have h : RdRef w w.heap.size v l := RdC.mono h0 hok
  obtain ⟨A, c, rfl, hc⟩ := h.form
  obtain ⟨n, hn⟩ : ∃ n, l.length = n := ⟨_, rfl⟩
  by_cases hi : isAt l i
  · obtain ⟨k, rfl⟩ : ∃ k : Nat, i = (k : Int) := ⟨i.toNat, by have := hi.1; omega⟩
    have hk : k < l.length := by have := hi.2; omega
    obtain ⟨m, hm⟩ : ∃ m, atM l (k : Int) = m := ⟨_, rfl⟩
    have hgm := getD_at hk
    rw [hm] at hgm
    have HE : Hid (codeM l (k : Int) = 0 ∧ takeM l (k : Int) = l.take k ++ l.drop (k + 1)) := Lib.hid ⟨if_pos hi, by unfold takeM; rw [if_pos hi, Int.toNat_natCast]⟩
    rw [HE.out.1, HE.out.2, hm]
    obtain ⟨ad, c2, e, hld⟩ := h.here hgm
    injection e with e1 e2 e3
    subst e1
    clear e2 e3 c2
    rw [hn] at hk h hc ⊢
    have HLD := Lib.hid hld
    obtain ⟨W, hW⟩ : ∃ z, w.alloc (.cells (refC zeroM).toArray 45) = z := ⟨_, rfl⟩
    have hz : Blk W w.heap.size 45 (refC zeroM).toArray := by rw [← hW]; exact Blk.newAt _ _ rfl rfl
    have hb : Below w.heap.size w W := by rw [← hW]; exact (Below.refl _ _).alloc (Nat.le_refl _) _
    have hw1 := h.below hb
    have ht : RdRef W W.heap.size (.slice (some ad) k c) (l.take k) := by
      unfold RdRef
      rw [refs_take]
      exact (RdC.take (hw1.mono hb.size) (by omega) (by omega))
    obtain ⟨v2, W2, hrun2, own2, hb2⟩ := ref_from ht (by rw [List.length_take]; omega)
    have hb02 : Below w.heap.size w W2.drew := (hb.trans (hb2.mono hb.size)).drew
    have own2d : W2.drew.ownsRow W.heap.size 45 5 v2 (l.take k).length (refsC (l.take k)).flatten := own2
    have hb2d : Below W.heap.size W W2.drew := hb2.drew
    have hd : RdRef W2.drew w.heap.size (.slice (cutC (some ad) c (k + 1) 5) (n - (k + 1)) (c - (k + 1))) (l.drop (k + 1)) := by
      unfold RdRef
      rw [refs_drop]
      exact RdC.drop (h.below hb02) (by omega)
    obtain ⟨v3, W3, hrun3, own3, hb3⟩ := ref_join (C := w.heap.size) hb2d.size own2d hd (by rw [List.length_take, List.length_drop]; omega)
    have hb03 := hb.trans ((hb2d.trans hb3).mono hb.size)
    have hz3 := hz.below (hb2d.trans hb3) hz.lt
    have hzs : Below W.heap.size W (W3) := hb2d.trans hb3
    have HZ3 := Lib.hid hz3
    have HB02 := Lib.hid hb02
    have HB03 := Lib.hid hb03
    have HBS : Hid (Below w.heap.size w (W3.setRow w.heap.size (refC m).toArray)) := Lib.hid (below_setRow hb03 (Nat.le_refl _) _)
    have HFI : Hid (RdC 5 (W3.setRow w.heap.size (refC m).toArray) (fun b => ok b ∨ (w.heap.size ≤ b ∧ b < (W3.setRow w.heap.size (refC m).toArray).heap.size)) v3 (refsC (l.take k ++ l.drop (k + 1)))) := Lib.hid (by
      have hr := rdC_own own3 (refsC_els _) (refsC_length _) (by rw [List.length_append, List.length_take, List.length_drop]; omega)
      have ht : Turn (fun i => i = w.heap.size) W3 (W3.setRow w.heap.size (refC m).toArray) := Turn.setRow (S := fun i => i = w.heap.size) (Turn.refl _ W3) (fun _ => rfl) _
      exact (RdC.turn hr ht (fun b hb' => by have := hz.lt; omega)).mono fun b hb' => .inr ⟨Nat.le_trans hb.size hb'.1, Nat.lt_of_lt_of_le hb'.2.1 ht.size⟩)
    have HR2 := Lib.hid hrun2
    have HR3 := Lib.hid hrun3
    have HW : Hid (w.alloc (.cells #[.bool false, .bool false, .int .i64 0, .int .i64 0, .string ⟨#[]⟩] 45) = W) := Lib.hid hW
    have hsl1 := fun w' => run_slice_toC elRef (some ad) n c k (by omega) w'
    have hsl2 := fun w' => run_slice_fromC elRef (some ad) n c (k + 1) (by omega) w'
    rw [show ((k + 1 : Nat) : Int) = (k : Int) + 1 from by omega] at hsl2
    have hix := fun w' => index_ref ad n c k hk w'
    have e1 : decide ((k : Int) < 0) = false := decide_eq_false (by omega)
    have e2 : decide ((k : Int) ≥ (n : Int)) = false := decide_eq_false (by omega)
    have e3 : decide ((n : Int) ≤ (k : Int)) = false := decide_eq_false (by omega)
    have e4 : decide (n ≤ k) = false := decide_eq_false (by omega)
    have hge : ¬ n ≤ k := by omega
    have hk6 : k < 600 := by omega
    clear hrun2 hrun3 hW hz hb hw1 ht own2 own2d hb2d hb2 hb02 hd own3 hb3 hb03 hz3 hzs hld hgm hm hi h h0 hok hc hn
    go_enter Try.func12, Try.ntmps12
    go_upto_region 1 with fail
    rw [HW.out]
    go_upto_region 3 with fail
    clear e1 e2 e3 e4
    go_upto_region 4 with (first
      | (at_builtin; refine wpList_append_run rfl (.tmp 18) (.tmp 21) _ _ rfl _ _ rfl rfl _ _ HR2.out ?_))
    refine wp_region_held_drew (S := fun W' => Below w.heap.size w W') (by kernel_rfl) ?_ (fun hHeld => ?_)
    · exact HB02.out
    refine wpAnyH_take (i := 0) (oi := ⟨some 23, _, _, _, _, _⟩) (v := ?_) rfl (by kernel_rfl) (by kernel_rfl) (by kernel_rfl) (fun _ _ _ h => h) (Or.inl ⟨by rfl, ?_⟩) (by assumption) ?_
    rotate_left
    · intro w hSw; (try dsimp only at hSw); go_simp; try (with_reducible rfl)
    rotate_left 0
    try simp only [Act.put, List.setIfInBounds_toArray, List.set_cons_zero, List.set_cons_succ]
    refine wpAnyH_take (i := 1) (oi := ⟨some 24, _, _, _, _, _⟩) (v := ?_) rfl (by kernel_rfl) (by kernel_rfl) (by kernel_rfl) (fun _ _ _ h => h) (Or.inl ⟨by rfl, ?_⟩) (by assumption) ?_
    rotate_left
    · intro w hSw; (try dsimp only at hSw); go_simp; try (with_reducible rfl)
    rotate_left 0
    try simp only [Act.put, List.setIfInBounds_toArray, List.set_cons_zero, List.set_cons_succ]
    refine wpAnyH_take (i := 2) (oi := ⟨some 25, _, _, _, _, _⟩) (v := ?_) rfl (by kernel_rfl) (by kernel_rfl) (by kernel_rfl) (fun _ _ _ h => h) (Or.inl ⟨by rfl, ?_⟩) (by assumption) ?_
    rotate_left
    · intro w hSw; (try dsimp only at hSw); go_simp; try (with_reducible rfl)
    rotate_left 0
    try simp only [Act.put, List.setIfInBounds_toArray, List.set_cons_zero, List.set_cons_succ]
    refine wpAnyH_take (i := 3) (oi := ⟨some 26, _, _, _, _, _⟩) (v := (.int .i64 ((k : Int) + 1))) rfl (by kernel_rfl) (by kernel_rfl) (by kernel_rfl) (fun _ _ _ h => h) (yields_binA (by rfl) .add _ _ _ _ rfl (.int .i64 (k : Int)) (.int .i64 1) rfl rfl _ (fun _ => rfl) (fun w' => int_addJ (k : Int) 1 ((k : Int) + 1) (by omega) (by omega) (by omega) w')) (by assumption) ?_
    try simp only [Act.put, List.setIfInBounds_toArray, List.set_cons_zero, List.set_cons_succ]
    refine wpAnyH_take (i := 4) (oi := ⟨some 27, _, _, _, _, _⟩) (v := ?_) rfl (by kernel_rfl) (by kernel_rfl) (by kernel_rfl) (fun _ _ _ h => h) (Or.inl ⟨by rfl, ?_⟩) (by assumption) ?_
    rotate_left
    · intro w hSw; (try dsimp only at hSw); go_simp; try (with_reducible rfl)
    rotate_left 0
    try simp only [Act.put, List.setIfInBounds_toArray, List.set_cons_zero, List.set_cons_succ]
    refine wpAnyH_take (i := 6) (oi := ⟨some 29, _, _, _, _, _⟩) (v := ?_) rfl (by kernel_rfl) (by kernel_rfl) (by kernel_rfl) (fun _ _ _ h => h) (Or.inl ⟨by rfl, ?_⟩) (by assumption) ?_
    rotate_left
    · intro w hSw; (try dsimp only at hSw); go_simp; try (with_reducible rfl)
    rotate_left 0
    try simp only [Act.put, List.setIfInBounds_toArray, List.set_cons_zero, List.set_cons_succ]
    refine wpAnyH_take (i := 7) (oi := ⟨some 30, _, _, _, _, _⟩) (v := ?_) rfl (by kernel_rfl) (by kernel_rfl) (by kernel_rfl) (fun _ _ _ h => h) (Or.inl ⟨by rfl, ?_⟩) (by assumption) ?_
    rotate_left
    · intro w hSw; (try dsimp only at hSw); go_simp; try (with_reducible rfl)
    rotate_left 0
    try simp only [Act.put, List.setIfInBounds_toArray, List.set_cons_zero, List.set_cons_succ]
    refine wpAnyH_take (i := 8) (oi := ⟨some 31, _, _, _, _, _⟩) (v := ?_) rfl (by kernel_rfl) (by kernel_rfl) (by kernel_rfl) (fun _ _ _ h => h) (Or.inl ⟨by rfl, ?_⟩) (by assumption) ?_
    rotate_left
    · intro w hSw; (try dsimp only at hSw); go_simp; try (with_reducible rfl)
    rotate_left 0
    try simp only [Act.put, List.setIfInBounds_toArray, List.set_cons_zero, List.set_cons_succ]
    refine wpAnyH_take (i := 9) (oi := ⟨some 32, _, _, _, _, _⟩) (v := (refV m)) rfl (by kernel_rfl) (by kernel_rfl) (by kernel_rfl) (fun _ _ _ h => h) (yields_loadA (by rfl) 45 _ rfl (.pointer (some (ad.add (k * 5)))) rfl _ (fun W' hS => HLD.out W' hS)) (by assumption) ?_
    try simp only [Act.put, List.setIfInBounds_toArray, List.set_cons_zero, List.set_cons_succ]
    refine wpAnyH_ready (rs := [5]) (by kernel_rfl) (by simp) ?_
    refine (AllReadyH.cons (o := ⟨some 28, _, _, _, _, _⟩) rfl (fun K hK => ?_) AllReadyH.nil)
    (try rw [if_pos (by rfl)])
    refine oper_append (.tmp 23) (.tmp 27) _ _ rfl _ _ rfl rfl v3 W3 HR3.out ?_
    have hbX := HB03.out
    try dsimp only
    refine hK.out _ _ (hbX) (fun hHeld => ?_)
    clear hK K
    try simp only [Act.put, List.setIfInBounds_toArray, List.set_cons_zero, List.set_cons_succ]
    refine wpAnyH_take (i := 10) (oi := ⟨some 4, _, _, _, _, _⟩) (v := ?_) rfl (by kernel_rfl) (by kernel_rfl) (by kernel_rfl) (fun _ _ _ h => h) (Or.inl ⟨by rfl, ?_⟩) (by assumption) ?_
    rotate_left
    · intro w hSw; (try dsimp only at hSw); go_simp; try (with_reducible rfl)
    rotate_left 0
    try simp only [Act.put, List.setIfInBounds_toArray, List.set_cons_zero, List.set_cons_succ]
    refine wpAnyH_ready (rs := [11]) (by kernel_rfl) (by simp) ?_
    refine (AllReadyH.cons (o := ⟨none, _, _, _, _, _⟩) rfl (fun K hK => ?_) AllReadyH.nil)
    (try rw [if_pos (by rfl)])
    refine wp_store_row 45 _ _ rfl w.heap.size (refC m).toArray rfl rfl 45 (refC zeroM).toArray HZ3.out (by kernel_rfl) rfl (ref_all m) ?_
    have hbX := HBS.out
    try dsimp only
    refine hK.out _ _ (hbX) (fun hHeld => ?_)
    clear hK K
    try simp only [Act.put]
    refine wpAnyH_take (i := 12) (oi := ⟨some 6, _, _, _, _, _⟩) (v := ?_) rfl (by kernel_rfl) (by kernel_rfl) (by kernel_rfl) (fun _ _ _ h => h) (Or.inl ⟨by rfl, ?_⟩) (by assumption) ?_
    rotate_left
    · intro w hSw; (try dsimp only at hSw); go_simp; try (with_reducible rfl)
    rotate_left 0
    try simp only [Act.put, List.setIfInBounds_toArray, List.set_cons_zero, List.set_cons_succ]
    refine wpAnyH_done (by kernel_rfl) ?_ _
    go_wp2
    exact ref_end rfl w.heap.size m rfl (HZ3.out.setRow _) rfl ⟨v3, rfl, HFI.out, HBS.out⟩
  · have HE : Hid (atM l i = zeroM ∧ codeM l i = 4 ∧ takeM l i = l) := Lib.hid ⟨if_neg hi, if_neg hi, if_neg hi⟩
    rw [HE.out.1, HE.out.2.1, HE.out.2.2, hn]
    obtain ⟨W, hW⟩ : ∃ z, w.alloc (.cells (refC zeroM).toArray 45) = z := ⟨_, rfl⟩
    have hz : Blk W w.heap.size 45 (refC zeroM).toArray := by rw [← hW]; exact Blk.newAt _ _ rfl rfl
    have hb : Below w.heap.size w W := by rw [← hW]; exact (Below.refl _ _).alloc (Nat.le_refl _) _
    have ht : Turn (fun i => i = w.heap.size) W (W.setRow w.heap.size (refC zeroM).toArray) := Turn.setRow (S := fun i => i = w.heap.size) (Turn.refl _ W) (fun _ => rfl) _
    have HZ := Lib.hid hz
    have HBS : Hid (Below w.heap.size w (W.setRow w.heap.size (refC zeroM).toArray)) := Lib.hid (below_setRow hb (Nat.le_refl _) _)
    have HFI : Hid (RdC 5 (W.setRow w.heap.size (refC zeroM).toArray) (fun b => ok b ∨ (w.heap.size ≤ b ∧ b < (W.setRow w.heap.size (refC zeroM).toArray).heap.size)) (.slice A n c) (refsC l)) := Lib.hid (by
      rw [hn] at h0
      exact (RdC.kept h0 fun a x ha hx => (HBS.out.cell (p := a) (hok _ ha)).trans hx).mono fun b hb => .inl hb)
    have HW : Hid (w.alloc (.cells #[.bool false, .bool false, .int .i64 0, .int .i64 0, .string ⟨#[]⟩] 45) = W) := Lib.hid hW
    have hio : i < 0 ∨ (n : Int) ≤ i := by
      by_cases h0 : i < 0
      · exact .inl h0
      · refine .inr (Int.not_lt.1 fun h1 => hi ⟨by omega, by omega⟩)
    clear hz hb ht hW hi h h0 hok hc
    by_cases h0 : i < 0
    · have e1 : decide (i < 0) = true := decide_eq_true h0
      go_enter Try.func12, Try.ntmps12
      go_upto_region 1 with fail
      rw [HW.out]
      go_wp2_with (first
        | (guard_target = wpList _ _ _ (Oper.mk _ (.build _ _) _ _ _ _ :: _) _ _; refine wpList_build rfl _ _ rfl ref_some ?_; simp only [List.map_toArray, List.map_nil, ref_built])
        | (guard_target = wpList _ _ _ (Oper.mk _ (.store 45 _ _) _ _ _ _ :: _) _ _; refine wpList_store_row rfl 45 _ _ rfl w.heap.size (refC zeroM).toArray rfl rfl 45 _ HZ.out (by kernel_rfl) rfl (ref_all zeroM) ?_))
      exact ref_end rfl w.heap.size zeroM rfl (HZ.out.setRow _) rfl ⟨_, rfl, HFI.out, HBS.out⟩
    · obtain ⟨k, rfl⟩ : ∃ k : Nat, i = (k : Int) := ⟨i.toNat, by omega⟩
      have hkn : n ≤ k := by omega
      have e1 : decide ((k : Int) < 0) = false := decide_eq_false (by omega)
      have e2 : decide ((k : Int) ≥ (n : Int)) = true := decide_eq_true (by omega)
      have e3 : decide ((n : Int) ≤ (k : Int)) = true := decide_eq_true (by omega)
      have e4 : decide (n ≤ k) = true := decide_eq_true hkn
      clear hio h0
      go_enter Try.func12, Try.ntmps12
      go_upto_region 1 with fail
      rw [HW.out]
      go_wp2_with (first
        | (guard_target = wpList _ _ _ (Oper.mk _ (.build _ _) _ _ _ _ :: _) _ _; refine wpList_build rfl _ _ rfl ref_some ?_; simp only [List.map_toArray, List.map_nil, ref_built])
        | (guard_target = wpList _ _ _ (Oper.mk _ (.store 45 _ _) _ _ _ _ :: _) _ _; refine wpList_store_row rfl 45 _ _ rfl w.heap.size (refC zeroM).toArray rfl rfl 45 _ HZ.out (by kernel_rfl) rfl (ref_all zeroM) ?_))
      exact ref_end rfl w.heap.size zeroM rfl (HZ.out.setRow _) rfl ⟨_, rfl, HFI.out, HBS.out⟩
set_option maxRecDepth 100000 in
set_option maxHeartbeats 8000000 in
theorem refTwice_any {ok : Nat → Prop} (l : List MailS) (i : Int) (v : Value) (w : World) (h0 : RdC 5 w ok v (refsC l)) (hok : ∀ b, ok b → b < w.heap.size) (hl : l.length ≤ 600) :
    Calls Try.prog 14 #[v, .int .i64 i] w fun e w' => ∃ v', e = .returned (.tuple #[v', .int .i64 (twiceE l i)]) ∧ RdC 5 w' (fun b => ok b ∨ (w.heap.size ≤ b ∧ b < w'.heap.size)) v' (refsC (twiceM l i)) ∧ Below w.heap.size w w' := by
  have h : RdRef w w.heap.size v l := RdC.mono h0 hok
  obtain ⟨A, c, rfl, hc⟩ := h.form
  obtain ⟨n, hn⟩ : ∃ n, l.length = n := ⟨_, rfl⟩
  by_cases hi : isAt l i
  · obtain ⟨k, rfl⟩ : ∃ k : Nat, i = (k : Int) := ⟨i.toNat, by have := hi.1; omega⟩
    have hk : k < l.length := by have := hi.2; omega
    obtain ⟨m, hm⟩ : ∃ m, atM l (k : Int) = m := ⟨_, rfl⟩
    have hgm := getD_at hk
    rw [hm] at hgm
    have HE : Hid (twiceE l (k : Int) = putE l ∧ twiceM l (k : Int) = putM l m) := Lib.hid ⟨if_pos hi, by unfold twiceM; rw [if_pos hi, hm]⟩
    rw [HE.out.1, HE.out.2]
    have HPU := Lib.hid (refPut_any l m _ w h0 hok hl)
    obtain ⟨ad, c2, e, hld⟩ := h.here hgm
    injection e with e1 e2 e3
    subst e1
    clear e2 e3 c2
    rw [hn] at hk HPU ⊢
    have HLW := Lib.hid (hld w (Below.refl _ _))
    have hix := fun w' => index_ref ad n c k hk w'
    have e1 : decide ((k : Int) < 0) = false := decide_eq_false (by omega)
    have e2 : decide ((k : Int) ≥ (n : Int)) = false := decide_eq_false (by omega)
    have e3 : decide ((n : Int) ≤ (k : Int)) = false := decide_eq_false (by omega)
    have e4 : decide (n ≤ k) = false := decide_eq_false (by omega)
    have hge : ¬ n ≤ k := by omega
    have hk6 : k < 600 := by omega
    clear hld hgm hm hi h h0 hok hc hn
    go_enter Try.func14, Try.ntmps14
    go_wp2_with (first
      | (guard_target = wpList _ _ _ (Oper.mk _ (.load 45 _) _ _ _ _ :: _) _ _; refine wpList_load_runT (by rfl) 45 _ rfl (.pointer (some (ad.add (k * 5)))) (refV m) rfl HLW.out ?_)
      | (go_at_call 8; refine HPU.out.mono ?_; rintro e W4 ⟨v4, rfl, hr4, hb4⟩))
    go_ret2
    exact ⟨_, rfl, hr4, hb4⟩
  · have HE : Hid (twiceE l i = 4 ∧ twiceM l i = l) := Lib.hid ⟨if_neg hi, if_neg hi⟩
    rw [HE.out.1, HE.out.2, hn]
    have HFI : Hid (RdC 5 w (fun b => ok b ∨ (w.heap.size ≤ b ∧ b < w.heap.size)) (.slice A n c) (refsC l)) := Lib.hid (by
      rw [hn] at h0
      exact RdC.mono h0 fun b hb => .inl hb)
    have hio : i < 0 ∨ (n : Int) ≤ i := by
      by_cases h0 : i < 0
      · exact .inl h0
      · refine .inr (Int.not_lt.1 fun h1 => hi ⟨by omega, by omega⟩)
    clear hi h h0 hok hc
    by_cases h0 : i < 0
    · have e1 : decide (i < 0) = true := decide_eq_true h0
      go_enter Try.func14, Try.ntmps14
      go_wp2
      go_ret2
      exact ⟨_, rfl, HFI.out, Below.refl _ _⟩
    · obtain ⟨k, rfl⟩ : ∃ k : Nat, i = (k : Int) := ⟨i.toNat, by omega⟩
      have hkn : n ≤ k := by omega
      have e1 : decide ((k : Int) < 0) = false := decide_eq_false (by omega)
      have e2 : decide ((k : Int) ≥ (n : Int)) = true := decide_eq_true (by omega)
      have e3 : decide ((n : Int) ≤ (k : Int)) = true := decide_eq_true (by omega)
      have e4 : decide (n ≤ k) = true := decide_eq_true hkn
      clear hio h0
      go_enter Try.func14, Try.ntmps14
      go_wp2
      go_ret2
      exact ⟨_, rfl, HFI.out, Below.refl _ _⟩
end Go.Proofs.Ytekakelkjnhehaa
