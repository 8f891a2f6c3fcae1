/-
  CountStays: its keys, and what holds all along. No condition.
-/
import Derived.Test.YtpjeildiahklpaaCntVote
import Derived.Test.YtpjeildiahklpaaCntGuard
namespace Go.Proofs.Ytpjeildiahklpaa
open Go Go.RowKit Go.Maps

/-! The key of a round and a kind. -/
def key2 (r k : Int) : Value := .agg #[.int .i64 r, .int .i64 k]
theorem two_row : (58 : TypeId) < Try.prog.types.size := of_decide_eq_true (by kernel_rfl)
theorem two_wide : (match Try.prog.underlying 58 with | some (.array _ _) | some (.struct _) => true | _ => false) = true := by kernel_rfl
set_option maxRecDepth 100000 in
theorem two_law : Keyed Try.prog 58 := Keyed.of_law (deep_law_laid cnt_laid (m := 2) (by omega) two_row (by kernel_rfl) two_wide)
theorem two_keyType : Try.prog.keyType 58 = true := by kernel_rfl
theorem two_cells : Try.prog.cellsOf 58 = 2 := by kernel_rfl
theorem two_info : (Try.prog.info? 58).map (·.size) = some 2 := by kernel_rfl
theorem key2_some {r k : Int} (hr : wfi r) (hk : wfi k) : ∃ kl, keyOf Try.prog 58 (key2 r k) = some kl := by
  unfold wfi at hr hk
  obtain ⟨m, hm⟩ := cnt_types
  have hu := Try.underlying58
  refine ⟨.string (keyBytes [.int .i64 r, .int .i64 k]), ?_⟩
  unfold keyOf key2
  simp only [hu]
  rw [if_pos (by simp [two_keyType, Value.formed, hu, two_cells]), hm]
  unfold Program.keyLits
  simp only [hu, Value.cells]
  rw [if_pos ⟨by rw [two_cells]; rfl, by simp⟩]
  simp [List.mapM_cons, Program.keyLits, Try.underlying3, cnt_cells1, hr, hk]
theorem key2_ne {r k r' k' : Int} (h : ¬ (r' = r ∧ k' = k)) : key2 r' k' ≠ key2 r k := by
  intro e
  unfold key2 at e
  injection e with e
  have := congrArg Array.toList e
  simp only [List.cons.injEq, Value.int.injEq, true_and, and_true] at this
  exact h this
theorem load_key2 {W : World} {g : Nat} {r k : Int} (h : Blk W g 58 #[.int .i64 r, .int .i64 k]) : (Instr.loadAt 58 (.pointer (some ⟨g, 0, none⟩))).run Try.prog W = .ok (key2 r k) W := run_loadVar_row W g 58 58 #[.int .i64 r, .int .i64 k] (0, 0) _ h Try.underlying58 rfl two_info
theorem yields_runM {P : Program} {ops : Array Oper} {S : World → Prop} {op : Oper} {a : Act} (hw : Region.wanted op (yielded ops a.tmps) = true) (ty : TypeId) (x : Operand) (ho : op.op = .load ty x) (p v : Value) (hx : a.eval x = p)
    (hS : ∀ w, S w → (Instr.loadAt ty p).run P w = .ok v w) : YieldsIf P ops S op v a :=
  .inl ⟨hw, fun w hw' => by
    have hl := hS w hw'
    unfold execOp
    simp only [ho, hx, Sem.run_bind, hl, Sem.run_pure, Result.andThen_ok]⟩
theorem yields_cmp {P : Program} {ops : Array Oper} {S : World → Prop} {op : Oper} {a : Act} (hw : Region.wanted op (yielded ops a.tmps) = true) (bop : BinOp) (t rt : TypeId) (x y : Operand) (ho : op.op = .binOp bop t x y rt)
    (vx vy : Value) (hx : a.eval x = vx) (hy : a.eval y = vy) (v : Value) (hg : ∀ w, (eqGuard bop t x y vx vy).run P w = .ok () w) (hrun : ∀ w, (binOp bop t vx vy).run P w = .ok v w) : YieldsIf P ops S op v a :=
  .inl ⟨hw, fun w _ => by
    unfold execOp
    simp only [ho, hx, hy, Sem.run_bind, hg, hrun, Sem.run_pure, Result.andThen_ok]⟩
theorem int_lssF (m n : Int) (h : ¬ m < n) (w : World) : (binOp .lss 3 (.int .i64 m) (.int .i64 n)).run Try.prog w = .ok (.bool false) w := by
  go_simp
theorem int_gtrF (m n : Int) (h : ¬ n < m) (w : World) : (binOp .gtr 3 (.int .i64 m) (.int .i64 n)).run Try.prog w = .ok (.bool false) w := by
  go_simp
/-- Something looked up in a map, in a region that draws its order. -/
theorem yields_look {P : Program} {ops : Array Oper} {S : World → Prop} {op : Oper} {a : Act} (hw : Region.wanted op (yielded ops a.tmps) = true) (m x : Operand) (t : TypeId) (ho : op.op = .lookup t m x false) (K e : TypeId) (L : Keyed P K) (ht : P.underlying t = some (.map K e)) {z : Value} (hz : ∀ w, (zeroValue e).run P w = .ok z w)
    (b n : Nat) (M : Value → Option Value) (hm : a.eval m = .map (some b)) (h : ∀ w, S w → MapV P K w b n M) (key : Value) (hx : a.eval x = key) (hkey : ∃ kl, keyOf P K key = some kl) (v : Value) (hv : (M key).getD z = v) : YieldsIf P ops S op v a :=
  .inl ⟨hw, fun w hw' => by
    obtain ⟨kl, hkl⟩ := hkey
    have hrun := (h w hw').look L ht (hz w) hkl
    rw [hv] at hrun
    unfold execOp
    simp only [ho, hm, hx, Sem.run_bind, hrun, Sem.run_pure, Result.andThen_ok]⟩
/-- What the map of sure things holds is sure. -/
def SureT (N : Nat) (V : Vt) (T : Value → Option Value) : Prop := ∀ r k x, T (key2 r k) = some x → ∃ id, x = idv id ∧ sureO N V r k = some id
/-- What the map of numbers holds is no more than there are. -/
def AllT (N : Nat) (V : Vt) (T : Value → Option Value) : Prop := ∀ r k x, T (key2 r k) = some x → ∃ c : Nat, x = .int .i64 c ∧ c ≤ allN N V r k
theorem SureT.keep {N : Nat} {V V' : Vt} {T : Value → Option Value} (hN : 0 ≤ faults (N : Int)) (h : SureT N V T) (hk : ∀ r k s x, V r k s = some x → V' r k s = some x) : SureT N V' T := fun r k x hx => by
  obtain ⟨id, e, hs⟩ := h r k x hx
  exact ⟨id, e, sureO_stays hN (fun s _ hv => hk _ _ _ _ hv) hs⟩
theorem AllT.keep {N : Nat} {V V' : Vt} {T : Value → Option Value} (h : AllT N V T) (hk : ∀ r k s x, V r k s = some x → V' r k s = some x) : AllT N V' T := fun r k x hx => by
  obtain ⟨c, e, hs⟩ := h r k x hx
  refine ⟨c, e, Nat.le_trans hs (allN_mono fun s _ hv => ?_)⟩
  obtain ⟨y, hy⟩ := Option.isSome_iff_exists.1 hv
  rw [hk _ _ _ _ hy]
  rfl
theorem SureT.put {N : Nat} {V : Vt} {T : Value → Option Value} (h : SureT N V T) {r k : Int} {id : List UInt8} (hs : sureO N V r k = some id) : SureT N V (putV T (key2 r k) (idv id)) := fun r' k' x hx => by
  by_cases he : r' = r ∧ k' = k
  · obtain ⟨rfl, rfl⟩ := he
    rw [putV_same] at hx
    exact ⟨id, (Option.some.inj hx).symm, hs⟩
  · rw [putV_other (key2_ne he)] at hx
    exact h r' k' x hx
theorem AllT.put {N : Nat} {V : Vt} {T : Value → Option Value} (h : AllT N V T) (r k : Int) : AllT N V (putV T (key2 r k) (.int .i64 (allN N V r k))) := fun r' k' x hx => by
  by_cases he : r' = r ∧ k' = k
  · obtain ⟨rfl, rfl⟩ := he
    rw [putV_same] at hx
    exact ⟨_, (Option.some.inj hx).symm, Nat.le_refl _⟩
  · rw [putV_other (key2_ne he)] at hx
    exact h r' k' x hx
/-- What holds all along: the count, and both maps. -/
structure StayR (W1 : World) (B M S : Nat) (N : Nat) (V : Vt) (m c : Nat) (W : World) : Prop where
  count : CountAt W B M m N V
  sure : ∃ T, MapV Try.prog 58 W S c T ∧ SureT N V T
  all : ∃ T, MapV Try.prog 58 W (S + 1) c T ∧ AllT N V T
  below : Below W1.heap.size W1 W
  own : W1.heap.size ≤ M ∧ W1.heap.size ≤ B ∧ M < S ∧ B < S ∧ S + 1 < W.heap.size
section
variable {W1 : World} {B M S : Nat} {N : Nat} {V V' : Vt} {m m' c : Nat} {W W' : World}
theorem StayR.kept (h : StayR W1 B M S N V m c W) (hb : Below W.heap.size W W') : StayR W1 B M S N V m c W' := by
  obtain ⟨h1, ⟨T, h2, h3⟩, ⟨U, h4, h5⟩, h6, h7⟩ := h
  exact ⟨h1.below hb, ⟨T, h2.same (hb.block _ h2.lt), h3⟩, ⟨U, h4.same (hb.block _ h4.lt), h5⟩, h6.trans (hb.mono h6.size), by have := hb.size; omega⟩
theorem StayR.mono (h : StayR W1 B M S N V m c W) {c' : Nat} (hc : c ≤ c') : StayR W1 B M S N V m c' W := by
  obtain ⟨h1, ⟨T, h2, h3⟩, ⟨U, h4, h5⟩, h6, h7⟩ := h
  exact ⟨h1, ⟨T, h2.mono hc, h3⟩, ⟨U, h4.mono hc, h5⟩, h6, h7⟩
theorem StayR.put (h : StayR W1 B M S N V m c W) (hN : 0 ≤ faults (N : Int)) (hc : CountAt W' B M m' N V') (hg : W.grownBy W' (some M)) (hk : ∀ r k s x, V r k s = some x → V' r k s = some x) : StayR W1 B M S N V' m' c W' := by
  obtain ⟨h1, ⟨T, h2, h3⟩, ⟨U, h4, h5⟩, h6, h7⟩ := h
  exact ⟨hc, ⟨T, h2.same (hg.block _ h2.lt (fun e => by have := Option.some.inj e; omega)), h3.keep hN hk⟩, ⟨U, h4.same (hg.block _ h4.lt (fun e => by have := Option.some.inj e; omega)), h5.keep hk⟩,
    h6.trans (below_of_grown hg (by omega) h6.size), by have := hg.size; omega⟩
theorem StayR.sured (h : StayR W1 B M S N V m c W) {T : Value → Option Value} (hm : MapV Try.prog 58 W' S (c + 1) T) (hT : SureT N V T) (ht : W.mapTurned W' S) : StayR W1 B M S N V m (c + 1) W' := by
  obtain ⟨h1, _, ⟨U, h4, h5⟩, h6, h7⟩ := h
  have hz := turned_size ht
  exact ⟨h1.same (turned_other ht (by omega)) (turned_other ht (by omega)), ⟨T, hm, hT⟩, ⟨U, (h4.same (turned_other ht (by omega))).mono (by omega), h5⟩, h6.trans (below_of_grown (grown_of_turned ht) (by omega) h6.size), by omega⟩
theorem StayR.alled (h : StayR W1 B M S N V m c W) {T : Value → Option Value} (hm : MapV Try.prog 58 W' (S + 1) (c + 1) T) (hT : AllT N V T) (ht : W.mapTurned W' (S + 1)) : StayR W1 B M S N V m (c + 1) W' := by
  obtain ⟨h1, ⟨U, h4, h5⟩, _, h6, h7⟩ := h
  have hz := turned_size ht
  exact ⟨h1.same (turned_other ht (by omega)) (turned_other ht (by omega)), ⟨U, (h4.same (turned_other ht (by omega))).mono (by omega), h5⟩, ⟨T, hm, hT⟩, h6.trans (below_of_grown (grown_of_turned ht) (by omega) h6.size), by omega⟩
end
end Go.Proofs.Ytpjeildiahklpaa
