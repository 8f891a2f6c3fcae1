/-
  Timers: which one is over first. No condition.
-/
import Derived.Test.YtgcpiaogodgphaaTmrSet
namespace Go.Proofs.Ytgcpiaogodgphaa
open Go Go.RowKit

theorem wpList_load_runT {P : Program} {ops : Array Oper} {rest : List Oper} {o : Oper} {a : Act} {w : World} {Q : Exit → Act → World → Prop} (hw : Region.wanted o (yielded ops a.tmps) = true) (ty : TypeId) (x : Operand) (ho : o.op = .load ty x) (p v : Value) (hx : a.eval x = p) (hl : (Instr.loadAt ty p).run P w = .ok v w)
    (h : wpList P ops Q rest (a.put o.dst v) w) : wpList P ops Q (o :: rest) a w :=
  wpList_step fun K hK => by
    rw [if_pos hw]
    unfold Oper.wp
    simp [execOp, ho, hx, hl, Result.andThen, Oper.upon]
    exact hK _ _ h
/-- Is a timer over? -/
def dueL (now : Int) (x : List Int) : Bool := decide (dly (x.getD 0 0) ≤ now - x.getD 2 0)
theorem three {x : List Int} (h : x.length = 3) : ∃ r s t, x = [r, s, t] := by
  match x, h with
  | [r, s, t], _ => exact ⟨r, s, t, rfl⟩
/-- All were set at a time that was. -/
def OkL (now : Int) (l : List (List Int)) : Prop := now ≤ 1000000 ∧ ∀ x ∈ l, 0 ≤ x.getD 2 0 ∧ x.getD 2 0 ≤ now
theorem load_alarm {W : World} {B N : Nat} {ty : Nat} {F : Nat → Int} (h : Blk W B ty (intN N F)) {off : Nat} (hN : off + 3 ≤ N) {r s t : Int} (h0 : F off = r) (h1 : F (off + 1) = s) (h2 : F (off + 2) = t) : (Instr.loadAt 25 (.pointer (some ⟨B, off, none⟩))).run Try.prog W = .ok (.agg (icA [r, s, t])) W := by
  refine run_load_ic W 25 _ Try.underlying25 rfl ⟨B, off, none⟩ [r, s, t] alarm_info fun i hi => ?_
  have e : (⟨B, off, none⟩ : Addr).add i = ⟨B, off + i, none⟩ := by unfold Addr.add; split <;> simp_all
  have hi3 : i < 3 := by simpa using hi
  rw [e, intN_cell h (by omega)]
  match i, hi3 with
  | 0, _ => rw [Nat.add_zero, h0]; rfl
  | 1, _ => rw [h1]; rfl
  | 2, _ => rw [h2]; rfl
theorem cell_now {W : World} {B : Nat} {now : Int} {l : List (List Int)} (h : TimerAt W B now l) : W.cell? ⟨B, 0, none⟩ = some (.int .i64 now) := by
  obtain ⟨F, hk, h0, _⟩ := h
  rw [intN_cell hk (by omega), h0]
theorem TimerAt.load {W : World} {B : Nat} {now : Int} {l : List (List Int)} (h : TimerAt W B now l) {j : Nat} {r s t : Int} (hj : l[j]? = some [r, s, t]) : (Instr.loadAt 25 (.pointer (some ⟨B, 2 + j * 3, none⟩))).run Try.prog W = .ok (.agg (icA [r, s, t])) W := by
  obtain ⟨F, hk, h0, h1, h2, h3, h4⟩ := h
  have hlt := (List.getElem?_eq_some_iff.1 hj).1
  refine load_alarm hk (by omega) ?_ ?_ ?_
  · have := h4 j _ hj 0 (by omega)
    rw [Nat.mul_comm]
    simpa using this
  · have := h4 j _ hj 1 (by omega)
    rw [Nat.mul_comm]
    simpa using this
  · have := h4 j _ hj 2 (by omega)
    rw [Nat.mul_comm]
    simpa using this
/-- Which one is over first, and whether one is. -/
def idxV (now : Int) (l : List (List Int)) : Int := match l.findIdx? (dueL now) with
  | some i => (i : Int)
  | none => -1
theorem idx_some {now : Int} {l : List (List Int)} {j : Nat} {x : List Int} (hj : l[j]? = some x) (hx : dueL now x = true) (h : ∀ i y, i < j → l[i]? = some y → dueL now y = false) : idxV now l = (j : Int) := by
  have hlt := (List.getElem?_eq_some_iff.1 hj).1
  have e : l.findIdx? (dueL now) = some j := by
    rw [List.findIdx?_eq_some_iff_getElem]
    refine ⟨hlt, ?_, fun i hi => ?_⟩
    · have := (List.getElem?_eq_some_iff.1 hj).2
      rw [this]
      exact hx
    · rw [h i _ hi (List.getElem?_eq_getElem (Nat.lt_trans hi hlt))]
      simp
  unfold idxV
  rw [e]
theorem idx_none {now : Int} {l : List (List Int)} (h : ∀ i y, i < l.length → l[i]? = some y → dueL now y = false) : idxV now l = -1 := by
  have e : l.findIdx? (dueL now) = none := by
    rw [List.findIdx?_eq_none_iff]
    intro x hx
    obtain ⟨i, hi⟩ := List.getElem?_of_mem hx
    exact h i x (List.getElem?_eq_some_iff.1 hi).1 hi
  unfold idxV
  rw [e]
set_option maxRecDepth 100000 in
set_option maxHeartbeats 4000000 in
theorem index_any {W : World} {B c : Nat} {now : Int} {l : List (List Int)} (h : TimerAt W B now l) (hc : Blk W c 40 #[.pointer (some ⟨B, 0, none⟩)]) (hok : OkL now l) :
    Calls Try.prog 22 #[.slice (some ⟨B, 2, none⟩) l.length 40, .func (.func 18) #[] #[.pointer (some ⟨c, 0, none⟩)]] W fun e w' => e = .returned (.int .i64 (idxV now l)) ∧ Below W.heap.size W w' := by
  obtain ⟨n, hn⟩ : ∃ n, l.length = n := ⟨_, rfl⟩
  have hn40 : n ≤ 40 := by obtain ⟨F, _, _, _, h2, _⟩ := h; omega
  rw [hn]
  have HT := Lib.hid h
  have HC := Lib.hid hc
  have HOK := Lib.hid hok
  have HN := Lib.hid hn
  have HTH : Hid (∀ x ∈ l, x.length = 3) := Lib.hid (by obtain ⟨F, _, _, _, _, h3, _⟩ := h; exact h3)
  clear h hc hok hn
  go_enter Try.func22, Try.ntmps22
  go_upto_region 2 with fail
  go_loopw [8] (fun s8 wr => ∃ j : Nat, j ≤ n ∧ s8 = .int .i64 (j : Int) ∧ (∀ i y, i < j → l[i]? = some y → dueL now y = false) ∧ Below W.heap.size W wr) (fun s8 _ => n - (intOf s8).toNat)
  case atStart => exact ⟨0, Nat.zero_le _, rfl, fun i y hi => by omega, Below.refl _ _⟩
  case round =>
    obtain ⟨j, hj, rfl, hpre, hb⟩ := hrel
    have HPRE := Lib.hid hpre
    have HB := Lib.hid hb
    clear hpre hb
    by_cases hlt : j < n
    · have hji : (j : Int) < (n : Int) := by omega
      have hj0 : (0 : Int) ≤ (j : Int) := by omega
      obtain ⟨x, hx⟩ : ∃ x, l[j]? = some x := ⟨_, List.getElem?_eq_getElem (by rw [HN.out]; exact hlt)⟩
      obtain ⟨r, s, t, rfl⟩ := three (HTH.out x (List.mem_of_getElem? hx))
      have hld := (HT.out.below HB.out).load hx
      have HLD := Lib.hid hld
      have hbd := HOK.out.2 _ (List.mem_of_getElem? hx)
      have HDU := Lib.hid (due_any wr c B now r s t (HC.out.below HB.out HC.out.lt) (cell_now (HT.out.below HB.out)) ⟨by simpa using hbd.1, by simpa using hbd.2, HOK.out.1⟩)
      have HX := Lib.hid hx
      have hdv : dueL now [r, s, t] = decide (dly r ≤ now - t) := rfl
      have HDV := Lib.hid hdv
      generalize decide (dly r ≤ now - t) = d at HDU HDV
      clear hx hld hbd hdv
      cases d with
      | true =>
        go_wp2_with (first
          | (guard_target = wpList _ _ _ (Oper.mk _ (.load 25 _) _ _ _ _ :: _) _ _; refine wpList_load_runT (by rfl) 25 _ rfl (.pointer (some ⟨B, 2 + j * 3, none⟩)) (.agg #[.int .i64 r, .int .i64 s, .int .i64 t]) rfl (HLD.out) ?_)
          | (go_at_call 18; refine HDU.out.mono ?_; rintro e W5 ⟨rfl, hb5⟩; have HB5 := Lib.hid (HB.out.trans (hb5.mono HB.out.size)); clear hb5))
        go_ret
        exact ⟨by rw [idx_some HX.out HDV.out HPRE.out]; rfl, HB5.out⟩
      | false =>
        go_wp2_with (first
          | (guard_target = wpList _ _ _ (Oper.mk _ (.load 25 _) _ _ _ _ :: _) _ _; refine wpList_load_runT (by rfl) 25 _ rfl (.pointer (some ⟨B, 2 + j * 3, none⟩)) (.agg #[.int .i64 r, .int .i64 s, .int .i64 t]) rfl (HLD.out) ?_)
          | (go_at_call 18; refine HDU.out.mono ?_; rintro e W5 ⟨rfl, hb5⟩; have HB5 := Lib.hid (HB.out.trans (hb5.mono HB.out.size)); clear hb5))
        go_roundw
        case rel =>
          refine ⟨j + 1, by omega, by go_num, fun i y hi hy => ?_, HB5.out⟩
          rcases Nat.lt_or_ge i j with h | h
          · exact HPRE.out i y h hy
          · obtain rfl : i = j := by omega
            rw [HX.out] at hy
            cases hy
            exact HDV.out
        case measure => simp [intOf]; omega
    · obtain rfl : j = n := by omega
      have hji : ¬ (j : Int) < (j : Int) := by omega
      go_wp2_with fail
      go_ret
      exact ⟨by rw [idx_none (fun i y hi => HPRE.out i y (by rw [HN.out] at hi; exact hi))]; rfl, HB.out⟩
end Go.Proofs.Ytgcpiaogodgphaa
