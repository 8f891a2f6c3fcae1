/-
  RoundAgree, proved: for all numbers of voters and every list of moves the call returns true, and the list reads as it did: of several of whom as many are faulty as may be, and write to each whatever they like, with mails that come in any order, twice or never, and timers that are over at any time, all who are done are done with the same. No condition.
-/
import Derived.Test.YtclhfokflagopaaRndArgs
import Derived.Test.YtclhfokflagopaaQBits
import Derived.Test.YtclhfokflagopaaRndArgsM
import Derived.Test.YtclhfokflagopaaRndAg4
import Derived.Test.YtclhfokflagopaaRndAg7
import Derived.JoinedCond
namespace Go.Proofs.Ytclhfokflagopaa
open Go Go.RowKit Go.Maps

set_option maxRecDepth 100000 in
set_option maxHeartbeats 8000000 in
theorem agree_other (a : Int) (A : Option Addr) (mm cc : Nat) (w : World) (h4 : a ≠ 4) (h7 : a ≠ 7) : Calls Try.prog 10 #[.int .i64 a, .slice A mm cc] w fun e w' => e = .returned (.bool true) ∧ Below w.heap.size w w' := by
  have h4b : (a == 4) = false := by rw [beq_eq_false_iff_ne]; exact h4
  have h7b : (a == 7) = false := by rw [beq_eq_false_iff_ne]; exact h7
  have h4n : (a != 4) = true := by rw [bne_iff_ne]; exact h4
  have h7n : (a != 7) = true := by rw [bne_iff_ne]; exact h7
  go_enter Try.func10, Try.ntmps10
  go_upto_region 3 with (go_at_call 32; refine (agrees_any _).mono ?_; rintro e W1 ⟨rfl, hb1⟩; have HB1 := Lib.hid hb1; clear hb1)
  go_wp2_with fail
  go_ret
  exact ⟨rfl, HB1.out⟩
set_option maxRecDepth 100000 in
set_option maxHeartbeats 8000000 in
theorem agree_long4 (A : Option Addr) (mm cc : Nat) (w : World) (hm : 300 < mm) : Calls Try.prog 10 #[.int .i64 4, .slice A mm cc] w fun e w' => e = .returned (.bool true) ∧ Below w.heap.size w w' := by
  have hmi : (300 : Int) < (mm : Int) := by omega
  clear hm
  go_enter Try.func10, Try.ntmps10
  go_upto_region 3 with (go_at_call 32; refine (agrees_any _).mono ?_; rintro e W1 ⟨rfl, hb1⟩; have HB1 := Lib.hid hb1; clear hb1)
  go_wp2_with fail
  go_ret
  exact ⟨rfl, HB1.out⟩
set_option maxRecDepth 100000 in
set_option maxHeartbeats 8000000 in
theorem agree_long7 (A : Option Addr) (mm cc : Nat) (w : World) (hm : 300 < mm) : Calls Try.prog 10 #[.int .i64 7, .slice A mm cc] w fun e w' => e = .returned (.bool true) ∧ Below w.heap.size w w' := by
  have hmi : (300 : Int) < (mm : Int) := by omega
  clear hm
  go_enter Try.func10, Try.ntmps10
  go_upto_region 3 with (go_at_call 32; refine (agrees_any _).mono ?_; rintro e W1 ⟨rfl, hb1⟩; have HB1 := Lib.hid hb1; clear hb1)
  go_wp2_with fail
  go_ret
  exact ⟨rfl, HB1.out⟩
theorem roundagree_law (a : Int) (v : Value) (L : List MoveS) (w : World) (hr : RdMv w w.heap.size v L) : Calls Try.prog 10 #[.int .i64 a, v] w fun e w' => e = .returned (.bool true) ∧ Below w.heap.size w w' := by
  obtain ⟨_, Aq, cq, rfl, _⟩ := id hr
  by_cases h4 : a = 4
  · subst h4
    by_cases hm : L.length ≤ 300
    · exact agree_4 _ _ _ L w hr rfl hm
    · exact agree_long4 _ _ _ w (by omega)
  · by_cases h7 : a = 7
    · subst h7
      by_cases hm : L.length ≤ 300
      · exact agree_7 _ _ _ L w hr rfl hm
      · exact agree_long7 _ _ _ w (by omega)
    · exact agree_other a _ _ _ w h4 h7
end Go.Proofs.Ytclhfokflagopaa
namespace Go.Proofs.Ytclhfokflagopaa.roundAgree
open Go Go.ChangeShapes Go.WideShapes Go.ChangeAt Go.RowKit

set_option maxRecDepth 100000 in
theorem contract (H : Type) (enc : TypeId × Value → H) (W : World) (base : Nat) (args : Array Value) (ds gs : List (DataW H)) (before : List MemPlace)
    (hval : ∀ (j : Nat) t v, Try.f10.params[j]? = some t → args[j]? = some v → Value.okWide Try.prog W .any base t v)
    (hW : DataW.Whole enc Try.prog Try.f10.params.toList Rows.roundAgreeSpec.vars false W args.toList ds gs before)
    (hwt : (DataW.weightsEach Try.prog (Try.f10.params.toList ++ Rows.roundAgreeSpec.plain.varTypes Try.prog) (ds ++ gs)).all (· ≤ reachBytes) = true) :
    Calls Try.prog 10 args W fun e W' => ∃ v, e = .returned v ∧ Rows.roundAgreeSpec.post enc Try.prog Try.f10 false true false false W args v W' := by
  have hW' := hW
  obtain ⟨p, q, hA0, hV, rfl, hfz, hnd⟩ := hW
  have hA : DataW.TrodAll enc Try.prog W 0 (fun _ => true) true Try.f10.params.toList args.toList ds p := hA0
  rw [Try.params10] at hA hval hwt
  obtain ⟨v0, vs0, d0, ds0, p0, q0, hargs, rfl, rfl, h0, r0⟩ := trodAll_cons hA
  obtain ⟨v1, vs1, d1, ds1, p1, q1, rfl, rfl, rfl, h1, r1⟩ := trodAll_cons r0
  obtain ⟨rfl, rfl, rfl⟩ := trodAll_nil r1
  obtain rfl : args = #[v0, v1] := by cases args; simp_all
  obtain ⟨rfl, rfl⟩ := trodVars_none hV
  clear hA0
  simp only [List.append_nil] at hW'
  have hlt : ∀ x ∈ p0 ++ p1, x.block < W.heap.size := fun x hx => hW'.lt x (by simpa using hx)
  obtain ⟨a0, rfl, rfl, rfl, w0⟩ := open_int Try.underlying3 (hval 0 3 v0 rfl rfl) h0
  obtain ⟨fuel1, hf1⟩ := id h1
  obtain ⟨A1, len1, c1, rfl⟩ := okWide_slice Try.underlying74 (hval 1 74 v1 rfl rfl)
  obtain ⟨u1, L1, hv1, hr1⟩ := open_movs (light_of (j := 1) hwt rfl rfl) hf1
  injection hv1 with hv1 _
  subst hv1
  refine (roundagree_law a0 _ L1 W hr1).mono fun e W' ⟨he, hb⟩ => ?_
  subst he
  exact ⟨_, rfl, post_of_below (pa := _) (pv := []) hW' (fun _ _ _ => trodAll_cons_mk (shut_bool Try.underlying4 _) trodAll_mk0)
    (fun sp hsp => (trodAll_cons_mk (shut_int Try.underlying3 w0) (trodAll_cons_mk (stays (by kernel_rfl) (of_decide_eq_true (by kernel_rfl)) h1 hb (fun x hx => hlt x (by simp [hx])) (sp := sp) (fun x hx => hsp x (by simp [hx]))) (trodAll_mk0 (enc := enc) (P := Try.prog) (w := W') (base := 0) (spare := sp) (held := true))))) (fun _ _ => rfl) (by simp)
    hb (ok_one (by kernel_rfl) rfl (okWide_bool_mk Try.underlying4 _))⟩

noncomputable def fitWorld (os : Os) : World := World.holding Try.prog os ⟨#[], #[], []⟩
theorem laid_met (os : Os) : laidMet Try.prog Rows.roundAgreeRow.laid ((fitWorld os).forCall (fun _ _ => 0) ⟨#[], #[.int .i64 0, .slice none 0 0], []⟩).memory :=
  laidMet_of_run' 8 (by kernel_rfl) (by kernel_rfl)
set_option maxRecDepth 100000 in
theorem lifted (os : Os) (started : os.Started) (H : Type) (enc : TypeId × Value → H) (F : Stop.Interp) :
    ReturnsInHanded {} Try.checked os 10 .any ((OpenSpec.ofChange Rows.roundAgreeSpec).preRow enc Try.prog Try.f10 Rows.roundAgreeRow.domain false Rows.roundAgreeRow.laid) (((OpenSpec.ofChange Rows.roundAgreeSpec).at F).post enc Try.prog Try.f10 false true false false) := by
  refine returnsInHanded_of_row (C := Try.checked) (s := OpenSpec.ofChange Rows.roundAgreeSpec) own started (by kernel_rfl) Try.func10
    (witness_row_at (enc := enc) (C := Try.checked) false (fitWorld os) #[.int .i64 0, .slice none 0 0] rfl (by kernel_rfl) (by kernel_rfl) (by kernel_rfl)
      (OpenSpec.preRow_of_cond 8 (x := ([.lit (.int .i64 0), .nil], [], [])) (by kernel_rfl) (by kernel_rfl) (fun k hk => by cases hk) (by kernel_rfl) (laid_met os))) ?_
  intro W base args ds gs before hval hW _ _ hwt _ _ _
  exact contract H enc W base args ds gs before hval hW hwt

/-- PROVED. -/
theorem proved : Rows.RoundAgreeSaid :=
  OpenClaim.holds_of_cond 10 Try.f10 rfl rfl rfl rfl rfl rfl rfl ⟨rfl, rfl, rfl, rfl, rfl⟩ rfl rfl rfl rfl rfl (by kernel_rfl) Try.func10 (by kernel_rfl)
    (of_decide_eq_true (by kernel_rfl)) (by unfold Func.isWrapper; first | (rw [if_pos (by decide +kernel)]; kernel_rfl) | (rw [if_neg (by decide +kernel)]; exact ⟨rfl, rfl⟩))
    (fun os started H enc _ F => by rw [OpenClaim.pre_eq_preRow]; exact lifted os started H enc F)
end Go.Proofs.Ytclhfokflagopaa.roundAgree
