/-
  One's way to agreement: was an offer voted for as it says. No condition.
-/
import Derived.Test.YtbgojlcciealiaaRndAgr
namespace Go.Proofs.Ytbgojlcciealiaa
open Go Go.RowKit Go.Maps

theorem offC_arr {o : OfferS} (h : IdOk o.id) : (offC o).toArray = arr 34 (offF o) := by
  refine Array.ext_getElem? fun i => ?_
  rw [arr_get, List.getElem?_toArray]
  by_cases hi : i < 34
  · rw [if_pos hi, ← offC_get h hi, List.getD_eq_getElem?_getD, List.getElem?_eq_getElem (by rw [offC_length h]; exact hi)]
    rfl
  · rw [if_neg hi, List.getElem?_eq_none (by rw [offC_length h]; omega)]
theorem offF_id (o : OfferS) (i : Nat) : offF o (2 + i) = Extern.Stop.cell (o.id.getD i 0) := by
  unfold offF
  rw [if_neg (by omega), if_neg (by omega), Nat.add_sub_cancel_left]
theorem load_offid {W : World} {g t : Nat} {o : OfferS} (h : Blk W g t (offC o).toArray) (ho : IdOk o.id) : (Instr.loadAt 24 (.pointer (some ⟨g, 2, none⟩))).run Try.prog W = .ok (idv o.id) W := by
  rw [offC_arr ho] at h
  exact load_id_at h (by omega) ho fun i _ => offF_id o i
def backedS (s : RdS) (o : OfferS) : Bool := sureS s (o.valid - 1) 0 == some o.id
set_option maxRecDepth 100000 in
set_option maxHeartbeats 8000000 in
theorem backed_none {W : World} {B C M n : Nat} {kv : Value} {s : RdS} (h : RoundAt W B C M n kv s) (o : OfferS) (ho : IdOk o.id) (hv : 1 ≤ o.valid ∧ o.valid ≤ 1000) (hs : sureS s (o.valid - 1) 0 = none) : Calls Try.prog 81 #[.pointer (some ⟨B, 0, none⟩), .agg (offC o).toArray] W fun e w' => e = .returned (.bool (backedS s o)) ∧ Below W.heap.size W w' := by
  have HR := Lib.hid h
  have HID : Hid (IdOk (zeroId)) := Lib.hid (zeroId_ok)
  have HFIN : Hid (backedS s o = false) := Lib.hid (by unfold backedS; rw [hs]; rfl)
  obtain ⟨W1, hW⟩ : ∃ W1, W.alloc (.cells (offC o).toArray 127) = W1 := ⟨_, rfl⟩
  have hb1 : Below W.heap.size W W1 := by rw [← hW]; exact (Below.refl _ _).alloc (Nat.le_refl _) _
  have k1 : Blk W1 W.heap.size 127 (offC o).toArray := by rw [← hW]; exact Blk.new _ _ _
  have HB1 := Lib.hid hb1
  have HK1 := Lib.hid k1
  have HO := Lib.hid ho
  obtain ⟨vd, hvd⟩ : ∃ vd, o.valid = vd := ⟨_, rfl⟩
  have HSU : Hid (∀ W', Below W1.heap.size W1 W' → Calls Try.prog 78 #[.pointer (some ⟨B, 0, none⟩), .int .i64 (vd - 1), .int .i64 0] W' fun e w' => e = .returned (.tuple #[idv (zeroId), .bool false]) ∧ Below W'.heap.size W' w') := Lib.hid fun W' hb => (sureR_any (h.below (hb1.trans (hb.mono hb1.size))) (vd - 1) 0 (wfi_small (by omega) (by omega)) (wfi_small (by omega) (by omega))).mono fun e w' ⟨he, hb'⟩ => ⟨by rw [he, ← hvd, hs]; rfl, hb'⟩
  have c1 : W1.cell? ⟨W.heap.size, 1, none⟩ = some (.int .i64 vd) := by rw [k1.cell, ← hvd]; rfl
  rw [hvd] at hv
  obtain ⟨hv1, hv2⟩ := hv
  clear h hs hb1 k1 ho hvd
  go_enter Try.func81, Try.ntmps81
  go_upto_region 1 with fail
  clear hW
  go_upto_region 2 with (first
    | (go_at_call 78; refine (HSU.out _ (Below.refl _ W1)).mono ?_; rintro e W2 ⟨rfl, hb2⟩; have HB2 := Lib.hid hb2; clear hb2)
    | (guard_target = wpList _ _ _ (Oper.mk _ (.store 24 _ _) _ _ _ _ :: _) _ _; refine wpList_store_idv rfl _ _ rfl W2.heap.size (zeroId) rfl rfl HID.out 24 _ (Blk.newAt _ _ rfl rfl) rfl ?_; intro W3 hS3 hz3 hb3 hk3; have HK8 := Lib.hid hS3; have HB3 := Lib.hid (((Below.refl _ W2).alloc (Nat.le_refl _) _).trans hb3); clear hS3 hz3 hb3 hk3))
  have HBW : Hid (Below W.heap.size W W3) := Lib.hid (HB1.out.trans ((HB2.out.trans (HB3.out.mono HB2.out.size)).mono HB1.out.size))
  go_wp2_with fail
  go_ret
  exact ⟨by rw [HFIN.out]; rfl, HBW.out⟩
set_option maxRecDepth 100000 in
set_option maxHeartbeats 8000000 in
theorem backed_some {W : World} {B C M n : Nat} {kv : Value} {s : RdS} (h : RoundAt W B C M n kv s) (o : OfferS) (ho : IdOk o.id) (hv : 1 ≤ o.valid ∧ o.valid ≤ 1000) (x : List UInt8) (hs : sureS s (o.valid - 1) 0 = some x) : Calls Try.prog 81 #[.pointer (some ⟨B, 0, none⟩), .agg (offC o).toArray] W fun e w' => e = .returned (.bool (backedS s o)) ∧ Below W.heap.size W w' := by
  have HR := Lib.hid h
  have HID : Hid (IdOk (x)) := Lib.hid ((sureS_ok h hs).1)
  have HFIN : Hid (backedS s o = (x == o.id)) := Lib.hid (by unfold backedS; rw [hs]; rfl)
  obtain ⟨W1, hW⟩ : ∃ W1, W.alloc (.cells (offC o).toArray 127) = W1 := ⟨_, rfl⟩
  have hb1 : Below W.heap.size W W1 := by rw [← hW]; exact (Below.refl _ _).alloc (Nat.le_refl _) _
  have k1 : Blk W1 W.heap.size 127 (offC o).toArray := by rw [← hW]; exact Blk.new _ _ _
  have HB1 := Lib.hid hb1
  have HK1 := Lib.hid k1
  have HO := Lib.hid ho
  obtain ⟨vd, hvd⟩ : ∃ vd, o.valid = vd := ⟨_, rfl⟩
  have HSU : Hid (∀ W', Below W1.heap.size W1 W' → Calls Try.prog 78 #[.pointer (some ⟨B, 0, none⟩), .int .i64 (vd - 1), .int .i64 0] W' fun e w' => e = .returned (.tuple #[idv (x), .bool true]) ∧ Below W'.heap.size W' w') := Lib.hid fun W' hb => (sureR_any (h.below (hb1.trans (hb.mono hb1.size))) (vd - 1) 0 (wfi_small (by omega) (by omega)) (wfi_small (by omega) (by omega))).mono fun e w' ⟨he, hb'⟩ => ⟨by rw [he, ← hvd, hs]; rfl, hb'⟩
  have c1 : W1.cell? ⟨W.heap.size, 1, none⟩ = some (.int .i64 vd) := by rw [k1.cell, ← hvd]; rfl
  rw [hvd] at hv
  obtain ⟨hv1, hv2⟩ := hv
  clear h hs hb1 k1 ho hvd
  go_enter Try.func81, Try.ntmps81
  go_upto_region 1 with fail
  clear hW
  go_upto_region 2 with (first
    | (go_at_call 78; refine (HSU.out _ (Below.refl _ W1)).mono ?_; rintro e W2 ⟨rfl, hb2⟩; have HB2 := Lib.hid hb2; clear hb2)
    | (guard_target = wpList _ _ _ (Oper.mk _ (.store 24 _ _) _ _ _ _ :: _) _ _; refine wpList_store_idv rfl _ _ rfl W2.heap.size (x) rfl rfl HID.out 24 _ (Blk.newAt _ _ rfl rfl) rfl ?_; intro W3 hS3 hz3 hb3 hk3; have HK8 := Lib.hid hS3; have HB3 := Lib.hid (((Below.refl _ W2).alloc (Nat.le_refl _) _).trans hb3); clear hS3 hz3 hb3 hk3))
  have HBW : Hid (Below W.heap.size W W3) := Lib.hid (HB1.out.trans ((HB2.out.trans (HB3.out.mono HB2.out.size)).mono HB1.out.size))
  have HOF : Hid ((Instr.loadAt 24 (.pointer (some ⟨W.heap.size, 2, none⟩))).run Try.prog W3 = .ok (idv o.id) W3) := Lib.hid (load_offid ((HK1.out.below HB2.out HK1.out.lt).below HB3.out (HK1.out.below HB2.out HK1.out.lt).lt) HO.out)
  have HLX : Hid ((Instr.loadAt 24 (.pointer (some ⟨W2.heap.size, 0, none⟩))).run Try.prog W3 = .ok (idv x) W3) := Lib.hid (run_loadVar_idv HID.out HK8.out)
  have heq := fun W => eql_idv HID.out HO.out W
  have hgu := fun W a b => guard_idv a b x o.id W
  go_wp2_with (first
    | (guard_target = wpList _ _ _ (Oper.mk _ (.load 24 (.tmp 5)) _ _ _ _ :: _) _ _; refine wpList_load_runS (by rfl) 24 _ rfl _ _ rfl HLX.out ?_)
    | (guard_target = wpList _ _ _ (Oper.mk _ (.load 24 (.tmp 18)) _ _ _ _ :: _) _ _; refine wpList_load_runS (by rfl) 24 _ rfl _ _ rfl HOF.out ?_))
  go_ret
  exact ⟨by rw [HFIN.out]; rfl, HBW.out⟩
theorem backed_any {W : World} {B C M n : Nat} {kv : Value} {s : RdS} (h : RoundAt W B C M n kv s) (o : OfferS) (ho : IdOk o.id) (hv : 1 ≤ o.valid ∧ o.valid ≤ 1000) : Calls Try.prog 81 #[.pointer (some ⟨B, 0, none⟩), .agg (offC o).toArray] W fun e w' => e = .returned (.bool (backedS s o)) ∧ Below W.heap.size W w' := by
  cases hs : sureS s (o.valid - 1) 0 with
  | none => exact backed_none h o ho hv hs
  | some x => exact backed_some h o ho hv x hs
end Go.Proofs.Ytbgojlcciealiaa
