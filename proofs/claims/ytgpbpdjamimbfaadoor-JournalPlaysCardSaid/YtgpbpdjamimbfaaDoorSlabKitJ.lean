/-
  Bytes as strings; a slice of bytes cloned: for whatever bytes, in whatever memory. No condition.
-/
import Derived.Test.YtgpbpdjamimbfaaDoorTurn
import Derived.Test.YtgpbpdjamimbfaaDoorRefSumJ
import Derived.Stop.BytesEq
import Derived.Deep.MidRow
import Derived.StillTailTactics
import Derived.Deep.QuietTactic
import Derived.BigQuiet
import Derived.WalkSpells
import Derived.WalkLawsBesides
import Derived.Lib.Hide
import Derived.Lib.SlBytesConst
import Derived.Lib.SmallJoins
namespace Go.Proofs.YtgpbpdjamimbfaaDoor
open Go Go.RowKit Go.Shelf

theorem idx_str (bs : List UInt8) (k : Nat) (z : Int) (hz : z = (k : Int)) (hk : k < bs.length) (w : World) : (Instr.index 9 (.string ⟨bs.toArray⟩) (.int .i64 z)).run Tryd.prog w = .ok (bv (bs.getD k 0)) w := by
  subst hz
  rw [run_index_string w 9 _ .i64 _ Tryd.underlying9, dif_pos ⟨by omega, by rw [ba_len]; omega⟩]
  have e : (⟨bs.toArray⟩ : ByteArray)[(k : Int).toNat]'(by rw [ba_len]; omega) = bs.getD k 0 := by
    rw [List.getD_eq_getElem?_getD, List.getElem?_eq_getElem hk]
    rfl
  rw [e]
  rfl
theorem cut_str (bs : List UInt8) (i j : Nat) (zi zj : Int) (hi : zi = (i : Int)) (hj : zj = (j : Int)) (h1 : i ≤ j) (h2 : j ≤ bs.length) (w : World) : (Instr.sliceAt 9 (.string ⟨bs.toArray⟩) (some (.int .i64 zi)) (some (.int .i64 zj)) none).run Tryd.prog w = .ok (.string ⟨((bs.take j).drop i).toArray⟩) w := by
  subst hi; subst hj
  rw [run_sliceAt_string w 9 _ _ _ _ Tryd.underlying9, run_slice_string w 9 _ .i64 .i64 _ _ Tryd.underlying9 (by omega) (by omega) (by rw [ba_len]; omega)]
  congr 2
  apply ByteArray.ext
  simp [ByteArray.data_extract, List.extract_eq_take_drop, List.drop_take]
theorem to_str (bs : List UInt8) (j : Nat) (h2 : j ≤ bs.length) (w : World) : (Instr.sliceAt 9 (.string ⟨bs.toArray⟩) none (some (.int .i64 (j : Int))) none).run Tryd.prog w = .ok (.string ⟨(bs.take j).toArray⟩) w := by
  rw [run_sliceAt_string w 9 _ _ _ _ Tryd.underlying9, run_slice_string_h w 9 _ Tryd.underlying9 .i64 _ (by omega) (by rw [ba_len]; omega)]
  congr 2
  apply ByteArray.ext
  simp [ByteArray.data_extract, List.extract_eq_take_drop]
theorem from_str (bs : List UInt8) (j : Nat) (h2 : j ≤ bs.length) (w : World) : (Instr.sliceAt 9 (.string ⟨bs.toArray⟩) (some (.int .i64 (j : Int))) none none).run Tryd.prog w = .ok (.string ⟨(bs.drop j).toArray⟩) w := by
  rw [run_sliceAt_string w 9 _ _ _ _ Tryd.underlying9, run_slice_string_l w 9 _ Tryd.underlying9 .i64 _ (by omega) (by rw [ba_len]; omega)]
  congr 2
  apply ByteArray.ext
  simp [ByteArray.data_extract, ByteArray.size, List.extract_eq_take_drop]
  exact List.take_of_length_le (by simp)
theorem add_str (a b : List UInt8) (h : a.length + b.length ≤ 1152921504606846976) (w : World) : (Op.stringOp .add ⟨a.toArray⟩ ⟨b.toArray⟩).run Tryd.prog w = .ok (.string ⟨(a ++ b).toArray⟩) w := by
  rw [run_string_add_sum w _ _ (by rw [ba_len, ba_len]; omega), ba_app]
theorem eql_str (a b : List UInt8) (w : World) : (binOp .eql 9 (.string ⟨a.toArray⟩) (.string ⟨b.toArray⟩)).run Tryd.prog w = .ok (.bool (a == b)) w := by
  show (Op.stringOp .eql ⟨a.toArray⟩ ⟨b.toArray⟩).run Tryd.prog w = _
  simp [Op.stringOp, ByteArray.toList_eq]
theorem neq_str (a b : List UInt8) (w : World) : (binOp .neq 9 (.string ⟨a.toArray⟩) (.string ⟨b.toArray⟩)).run Tryd.prog w = .ok (.bool (!(a == b))) w := by
  show (Op.stringOp .neq ⟨a.toArray⟩ ⟨b.toArray⟩).run Tryd.prog w = _
  simp [Op.stringOp, ByteArray.toList_eq]
theorem RdB.firsts {W : World} {ok : Nat → Prop} {A : Option Addr} {r c m : Nat} {xs : List UInt8} (h : RdB W ok (.slice A r c) xs) (hm : m ≤ r) : RdB W ok (.slice A m c) (xs.take m) := by
  obtain ⟨A', c', hv, h1, h2, h3⟩ := h
  injection hv with e1 e2 e3
  subst e1; subst e2; subst e3
  have hl : (xs.take m).length = m := by rw [List.length_take]; omega
  refine ⟨A, c, by rw [hl], by omega, by omega, fun h0 => ?_⟩
  obtain ⟨ad, hA, hok, hc⟩ := h3 (by omega)
  refine ⟨ad, hA, hok, fun j hj => ?_⟩
  rw [hl] at hj
  rw [hc j (by omega), List.getD_eq_getElem?_getD, List.getD_eq_getElem?_getD, List.getElem?_take_of_lt hj]
set_option maxRecDepth 100000 in
set_option maxHeartbeats 1000000 in
theorem clone_any (A : Option Addr) (c : Nat) (bs : List UInt8) (w : World) (hr : RdB w (fun b => b < w.heap.size) (.slice A bs.length c) bs) :
    Calls Tryd.prog 45 #[.slice A bs.length c] w fun e w' => ∃ A' c', e = .returned (.slice A' bs.length c') ∧ RdB w' (fun b => w.heap.size ≤ b ∧ b < w'.heap.size) (.slice A' bs.length c') bs ∧ w'.ownsRow w.heap.size 5 1 (.slice A' bs.length c') bs.length (bs.map bv) ∧ Below w.heap.size w w' := by
  cases A with
  | none =>
    have hn : bs = [] := by
      rcases Nat.eq_zero_or_pos bs.length with h | h
      · exact List.eq_nil_of_length_eq_zero h
      · obtain ⟨A', c', hv, h1, h2, h3⟩ := hr
        injection hv with e1 e2 e3
        subst e1
        obtain ⟨_, h, _⟩ := h3 h
        cases h
    subst hn
    have heq : ∀ w', (binOp .eql 42 (.slice none 0 c) (.slice none 0 0)).run Tryd.prog w' = .ok (.bool true) w' := fun w' => Lib.run_eql_slice_nil w' 42 5 none 0 c 0 0 Tryd.underlying42
    go_enter Tryd.func45, Tryd.ntmps45
    go_wp2
    go_ret
    exact ⟨none, 0, rfl, ⟨none, 0, rfl, Nat.le_refl _, Nat.zero_le _, fun h => absurd h (by simp)⟩, World.ownsRow_nil _ _ _ _, Below.refl _ _⟩
  | some ad =>
    have heq : ∀ w', (binOp .eql 42 (.slice (some ad) bs.length c) (.slice none 0 0)).run Tryd.prog w' = .ok (.bool false) w' := fun w' => Lib.run_eql_slice_nil w' 42 5 (some ad) bs.length c 0 0 Tryd.underlying42
    have hl : bs.length ≤ 140737488351232 := by
      obtain ⟨A', c', hv, h1, h2, h3⟩ := hr
      exact h2
    have hb0 : Below w.heap.size w (w.alloc (.cells #[] 5)) := (Below.refl _ _).alloc (Nat.le_refl _) _
    have own0 : (w.alloc (.cells #[] 5)).ownsRow w.heap.size 5 1 (.slice (some ⟨w.heap.size, 0, none⟩) 0 0) 0 (([] : List UInt8).map bv) := ⟨rfl, .inr ⟨w.heap.size, 0, #[], rfl, Nat.le_refl _, heap_alloc_new w _, Nat.le_refl _, by unfold maxLen; omega, rfl, rfl⟩⟩
    obtain ⟨i0, hi, hz0, hz1, hz2⟩ := info_parts info_u8
    obtain ⟨v', w', hrun, hown', hgr, _⟩ := run_append_rd (P := Tryd.prog) (w.alloc (.cells #[] 5)) w.heap.size 42 42 5 i0 (.int .u8 0) Tryd.underlying42 hi hz0 hz1 hz2 rfl _ 0 _ own0 _ (some ad) bs.length c bs (hr.kept fun a x ha h => (hb0.cell (p := a) ha).trans h) (by omega) (by simp)
    rw [List.map_nil, List.nil_append, Nat.zero_add] at hown'
    have hb : Below w.heap.size w w' := hb0.grown hgr (by simp) fun k hk => by
      simp only [Value.ownBlock, Option.some.injEq] at hk
      omega
    have hrd := rdB_own hown' rfl hl
    obtain ⟨A', c', rfl⟩ : ∃ A' c', v' = .slice A' bs.length c' := by
      rcases ownsRow_forms' hown' with ⟨rfl, h0⟩ | ⟨g, cap, rfl⟩
      · exact ⟨none, 0, by rw [h0]⟩
      · exact ⟨_, _, rfl⟩
    have HR := Lib.hid hrun
    have HB := Lib.hid hb
    have HRD := Lib.hid hrd
    have HO := Lib.hid hown'
    clear hrun hb hrd hown' hgr own0 hb0 hi hz0 hz1 hz2 hr hl
    go_enter Tryd.func45, Tryd.ntmps45
    go_wp2_with (at_builtin; refine wpList_append_run rfl (.tmp 5) (.tmp 6) _ _ rfl _ _ rfl rfl _ _ HR.out ?_)
    go_ret
    exact ⟨A', c', rfl, HRD.out, HO.out, HB.out⟩
end Go.Proofs.YtgpbpdjamimbfaaDoor
