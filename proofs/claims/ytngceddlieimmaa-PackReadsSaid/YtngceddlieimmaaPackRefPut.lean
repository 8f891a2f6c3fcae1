/-
  The reference's put, for the five numbers: for every message that reads, any string that isn't empty, in whatever memory.
-/
import Derived.Test.YtngceddlieimmaaPackRefRead
import Derived.Test.YtngceddlieimmaaPackLawKit
namespace Go.Proofs.Ytngceddlieimmaa
open Go Go.RowKit PackMath

theorem str_some {bs : List UInt8} (h : bs ≠ []) : (⟨bs.toArray⟩ : ByteArray).toList.isEmpty = false := by
  rw [ByteArray.toList_eq]
  cases bs with
  | nil => exact absurd rfl h
  | cons y t => rfl
theorem ref_set1 (r : Raw) (d i l : Value) (n : Int) : (msgA r d i l).setIfInBounds 1 (.int .i64 n) = msgA { r with who := n } d i l := by
  rw [msgA, set_row _ _ _ _ (by omega)]
  refine arr_congr fun j hj => ?_
  match j with
  | 0 => rfl
  | 1 => rfl
  | 2 => rfl
  | 3 => rfl
  | 4 => rfl
  | 5 => rfl
  | m + 6 => rfl
theorem ref_set2 (r : Raw) (d i l : Value) (n : Int) : (msgA r d i l).setIfInBounds 2 (.int .i64 n) = msgA { r with height := n } d i l := by
  rw [msgA, set_row _ _ _ _ (by omega)]
  refine arr_congr fun j hj => ?_
  match j with
  | 0 => rfl
  | 1 => rfl
  | 2 => rfl
  | 3 => rfl
  | 4 => rfl
  | 5 => rfl
  | m + 6 => rfl
theorem ref_set3 (r : Raw) (d i l : Value) (n : Int) : (msgA r d i l).setIfInBounds 3 (.int .i64 n) = msgA { r with round := n } d i l := by
  rw [msgA, set_row _ _ _ _ (by omega)]
  refine arr_congr fun j hj => ?_
  match j with
  | 0 => rfl
  | 1 => rfl
  | 2 => rfl
  | 3 => rfl
  | 4 => rfl
  | 5 => rfl
  | m + 6 => rfl
theorem ref_set4 (r : Raw) (d i l : Value) (n : Int) : (msgA r d i l).setIfInBounds 4 (.int .i64 n) = msgA { r with valid := n } d i l := by
  rw [msgA, set_row _ _ _ _ (by omega)]
  refine arr_congr fun j hj => ?_
  match j with
  | 0 => rfl
  | 1 => rfl
  | 2 => rfl
  | 3 => rfl
  | 4 => rfl
  | 5 => rfl
  | m + 6 => rfl
theorem ref_set5 (r : Raw) (d i l : Value) (n : Int) : (msgA r d i l).setIfInBounds 5 (.int .i64 n) = msgA { r with num := n } d i l := by
  rw [msgA, set_row _ _ _ _ (by omega)]
  refine arr_congr fun j hj => ?_
  match j with
  | 0 => rfl
  | 1 => rfl
  | 2 => rfl
  | 3 => rfl
  | 4 => rfl
  | 5 => rfl
  | m + 6 => rfl
set_option maxRecDepth 100000 in
set_option maxHeartbeats 4000000 in
theorem refPut1 (r : Raw) (d i l : Value) (bs : List UInt8) (hne : bs ≠ []) (hm : bs.length ≤ 140737488351232) (w : World) (hr : RdR w (fun b => b < w.heap.size) r d i l) :
    Calls Try.prog 25 #[.agg (msgA r d i l), .int .i64 1, .string ⟨bs.toArray⟩] w fun e w' => (number bs = none → ∃ M, e = .returned (.tuple #[.agg M, .int .i64 23]) ∧ M.size = 41 ∧ M.all (·.oneCell') = true) ∧ (∀ n, number bs = some n → e = .returned (.tuple #[.agg (msgA { r with who := (n : Int) } d i l), .int .i64 0])) ∧ Below w.heap.size w w' := by
  have hnum := refNumber_any bs hne hm
  have hem := str_some hne
  have hs : (msgA r d i l).size = 41 := arr_size _ _
  have ha : (msgA r d i l).all (·.oneCell') = true := msg_all hr
  obtain ⟨S, hS⟩ : ∃ S : ByteArray, ⟨bs.toArray⟩ = S := ⟨_, rfl⟩
  have hz : (msgA (zeroRaw 0) nilS nilS nilS) = (msgA (zeroRaw 0) nilS nilS nilS) := rfl
  obtain ⟨Z, hZ⟩ : ∃ Z, msgA (zeroRaw 0) nilS nilS nilS = Z := ⟨_, rfl⟩
  have hzs : Z.size = 41 := by rw [← hZ]; exact arr_size _ _
  have HZ := Lib.hid hZ
  have HZS := Lib.hid hzs
  unfold RefNumOut at hnum
  cases hq : number bs with
  | none =>
    rw [hq] at hnum
    obtain ⟨M, hM⟩ : ∃ M, msgA r d i l = M := ⟨_, rfl⟩
    rw [hM] at hs ha ⊢
    rw [hS] at hem hnum ⊢
    have HN := Lib.hid hnum
    have HSZ := Lib.hid hs
    have HA := Lib.hid ha
    clear hnum hs ha hM hS hZ hzs hz hr hq hne hm
    go_enter Try.func25, Try.ntmps25
    go_wp2_with (first
      | (go_at_call 35; refine (HN.out _).mono ?_; rintro e w1 ⟨⟨z, rfl⟩, hb1⟩; have hx1 : Blk w1 w.heap.size 28 M := ((Blk.new w 28 M).alloc _).below hb1 (by simp; omega); have hR1 : Blk w1 (w.heap.size + 1) 28 Z := (Blk.newAt _ _ (by simp) (by rw [← HZ.out]; kernel_rfl)).below hb1 (by simp); have hw1 : Below w.heap.size w w1 := (((Below.refl _ w).alloc (Nat.le_refl _) _).alloc (by simp) _).trans (hb1.mono (by simp; omega)); have HW1 := Lib.hid hw1; clear hb1 hw1)
      | (guard_target = wpList _ _ _ _ _ _; refine wpList_load_row rfl 28 _ rfl w.heap.size rfl 28 M (0, 0) _ hx1 Try.underlying28 rfl (by rw [HSZ.out]; kernel_rfl) ?_)
      | (guard_target = wpList _ _ _ _ _ _; refine wpList_store_arrW rfl 28 _ _ rfl (w.heap.size + 1) M rfl rfl 28 _ hR1 (by rw [HSZ.out]; kernel_rfl) (by rw [HSZ.out, HZS.out]) HA.out ?_; intro W9 hS9 hz9 hb9 ho9))
    refine bodyPost_ret (results_cell_tmp (p := 6) (q := 7) rfl _ _ (w.heap.size + 1) 28 _ _ rfl hS9 Try.underlying28 rfl (by rw [HSZ.out]; kernel_rfl)) rfl ?_
    exact ⟨fun _ => ⟨_, rfl, HSZ.out, HA.out⟩, fun n h => (by cases h), HW1.out.trans (hb9.mono (by omega))⟩
  | some n =>
    rw [hq] at hnum
    have hm1 := ref_set1 r d i l (n : Int)
    have ha1 : (msgA { r with who := (n : Int) } d i l).all (·.oneCell') = true := msg_all (r := { r with who := (n : Int) }) ⟨hr.data, hr.ids, hr.list⟩
    have hs1 : (msgA { r with who := (n : Int) } d i l).size = 41 := arr_size _ _
    have hcv : (msgA r d i l)[1]? = some (.int .i64 r.who) := by rw [msgA, arr_get]; rfl
    obtain ⟨M, hM⟩ : ∃ M, msgA r d i l = M := ⟨_, rfl⟩
    obtain ⟨M1, hM1⟩ : ∃ M1, msgA { r with who := (n : Int) } d i l = M1 := ⟨_, rfl⟩
    rw [hM, hM1] at hm1
    rw [hM] at hs hcv ⊢
    rw [hM1] at hs1 ha1
    rw [hS] at hem hnum ⊢
    have HN := Lib.hid hnum
    have HSZ := Lib.hid hs
    have HS1 := Lib.hid hs1
    have HA1 := Lib.hid ha1
    have HM1 := Lib.hid hm1
    have HCV := Lib.hid hcv
    have HQ := Lib.hid (And.intro hq hM1)
    clear hnum hs ha hM hS hZ hzs hz hr hne hm hs1 ha1 hm1 hM1 hcv hq
    go_enter Try.func25, Try.ntmps25
    go_wp2_with (first
      | (go_at_call 35; refine (HN.out _).mono ?_; rintro e w1 ⟨rfl, hb1⟩; have hx1 : Blk w1 w.heap.size 28 M := ((Blk.new w 28 M).alloc _).below hb1 (by simp; omega); have hR1 : Blk w1 (w.heap.size + 1) 28 Z := (Blk.newAt _ _ (by simp) (by rw [← HZ.out]; kernel_rfl)).below hb1 (by simp); have hw1 : Below w.heap.size w w1 := (((Below.refl _ w).alloc (Nat.le_refl _) _).alloc (by simp) _).trans (hb1.mono (by simp; omega)); have HW1 := Lib.hid hw1; clear hb1 hw1; have kc : w1.cell? ⟨w.heap.size, 1, none⟩ = some (.int .i64 r.who) := (hx1.cell 1).trans HCV.out; have kf := hx1.frozen 1; have hx2 : Blk (w1.setCell ⟨w.heap.size, 1, none⟩ (.int .i64 (n : Int))) w.heap.size 28 M1 := (hx1.store 1 _).same HM1.out; have hR2 : Blk (w1.setCell ⟨w.heap.size, 1, none⟩ (.int .i64 (n : Int))) (w.heap.size + 1) 28 Z := hR1.far (by show w.heap.size + 1 ≠ w.heap.size; omega) _)
      | (guard_target = wpList _ _ _ _ _ _; refine wpList_load_row rfl 28 _ rfl w.heap.size rfl 28 M1 (0, 0) _ hx2 Try.underlying28 rfl (by rw [HS1.out]; kernel_rfl) ?_)
      | (guard_target = wpList _ _ _ _ _ _; refine wpList_store_arrW rfl 28 _ _ rfl (w.heap.size + 1) M1 rfl rfl 28 _ hR2 (by rw [HS1.out]; kernel_rfl) (by rw [HS1.out, HZS.out]) HA1.out ?_; intro W9 hS9 hz9 hb9 ho9))
    refine bodyPost_ret (results_cell_tmp (p := 6) (q := 7) rfl _ _ (w.heap.size + 1) 28 _ _ rfl hS9 Try.underlying28 rfl (by rw [HS1.out]; kernel_rfl)) rfl ?_
    exact ⟨fun h => (by cases h), fun n2 h => (by cases h; rw [HQ.out.2]; rfl), (HW1.out.setCell (Nat.le_refl _) _).trans (hb9.mono (by omega))⟩
set_option maxRecDepth 100000 in
set_option maxHeartbeats 4000000 in
theorem refPut2 (r : Raw) (d i l : Value) (bs : List UInt8) (hne : bs ≠ []) (hm : bs.length ≤ 140737488351232) (w : World) (hr : RdR w (fun b => b < w.heap.size) r d i l) :
    Calls Try.prog 25 #[.agg (msgA r d i l), .int .i64 2, .string ⟨bs.toArray⟩] w fun e w' => (number bs = none → ∃ M, e = .returned (.tuple #[.agg M, .int .i64 23]) ∧ M.size = 41 ∧ M.all (·.oneCell') = true) ∧ (∀ n, number bs = some n → e = .returned (.tuple #[.agg (msgA { r with height := (n : Int) } d i l), .int .i64 0])) ∧ Below w.heap.size w w' := by
  have hnum := refNumber_any bs hne hm
  have hem := str_some hne
  have hs : (msgA r d i l).size = 41 := arr_size _ _
  have ha : (msgA r d i l).all (·.oneCell') = true := msg_all hr
  obtain ⟨S, hS⟩ : ∃ S : ByteArray, ⟨bs.toArray⟩ = S := ⟨_, rfl⟩
  have hz : (msgA (zeroRaw 0) nilS nilS nilS) = (msgA (zeroRaw 0) nilS nilS nilS) := rfl
  obtain ⟨Z, hZ⟩ : ∃ Z, msgA (zeroRaw 0) nilS nilS nilS = Z := ⟨_, rfl⟩
  have hzs : Z.size = 41 := by rw [← hZ]; exact arr_size _ _
  have HZ := Lib.hid hZ
  have HZS := Lib.hid hzs
  unfold RefNumOut at hnum
  cases hq : number bs with
  | none =>
    rw [hq] at hnum
    obtain ⟨M, hM⟩ : ∃ M, msgA r d i l = M := ⟨_, rfl⟩
    rw [hM] at hs ha ⊢
    rw [hS] at hem hnum ⊢
    have HN := Lib.hid hnum
    have HSZ := Lib.hid hs
    have HA := Lib.hid ha
    clear hnum hs ha hM hS hZ hzs hz hr hq hne hm
    go_enter Try.func25, Try.ntmps25
    go_wp2_with (first
      | (go_at_call 35; refine (HN.out _).mono ?_; rintro e w1 ⟨⟨z, rfl⟩, hb1⟩; have hx1 : Blk w1 w.heap.size 28 M := ((Blk.new w 28 M).alloc _).below hb1 (by simp; omega); have hR1 : Blk w1 (w.heap.size + 1) 28 Z := (Blk.newAt _ _ (by simp) (by rw [← HZ.out]; kernel_rfl)).below hb1 (by simp); have hw1 : Below w.heap.size w w1 := (((Below.refl _ w).alloc (Nat.le_refl _) _).alloc (by simp) _).trans (hb1.mono (by simp; omega)); have HW1 := Lib.hid hw1; clear hb1 hw1)
      | (guard_target = wpList _ _ _ _ _ _; refine wpList_load_row rfl 28 _ rfl w.heap.size rfl 28 M (0, 0) _ hx1 Try.underlying28 rfl (by rw [HSZ.out]; kernel_rfl) ?_)
      | (guard_target = wpList _ _ _ _ _ _; refine wpList_store_arrW rfl 28 _ _ rfl (w.heap.size + 1) M rfl rfl 28 _ hR1 (by rw [HSZ.out]; kernel_rfl) (by rw [HSZ.out, HZS.out]) HA.out ?_; intro W9 hS9 hz9 hb9 ho9))
    refine bodyPost_ret (results_cell_tmp (p := 6) (q := 7) rfl _ _ (w.heap.size + 1) 28 _ _ rfl hS9 Try.underlying28 rfl (by rw [HSZ.out]; kernel_rfl)) rfl ?_
    exact ⟨fun _ => ⟨_, rfl, HSZ.out, HA.out⟩, fun n h => (by cases h), HW1.out.trans (hb9.mono (by omega))⟩
  | some n =>
    rw [hq] at hnum
    have hm1 := ref_set2 r d i l (n : Int)
    have ha1 : (msgA { r with height := (n : Int) } d i l).all (·.oneCell') = true := msg_all (r := { r with height := (n : Int) }) ⟨hr.data, hr.ids, hr.list⟩
    have hs1 : (msgA { r with height := (n : Int) } d i l).size = 41 := arr_size _ _
    have hcv : (msgA r d i l)[2]? = some (.int .i64 r.height) := by rw [msgA, arr_get]; rfl
    obtain ⟨M, hM⟩ : ∃ M, msgA r d i l = M := ⟨_, rfl⟩
    obtain ⟨M1, hM1⟩ : ∃ M1, msgA { r with height := (n : Int) } d i l = M1 := ⟨_, rfl⟩
    rw [hM, hM1] at hm1
    rw [hM] at hs hcv ⊢
    rw [hM1] at hs1 ha1
    rw [hS] at hem hnum ⊢
    have HN := Lib.hid hnum
    have HSZ := Lib.hid hs
    have HS1 := Lib.hid hs1
    have HA1 := Lib.hid ha1
    have HM1 := Lib.hid hm1
    have HCV := Lib.hid hcv
    have HQ := Lib.hid (And.intro hq hM1)
    clear hnum hs ha hM hS hZ hzs hz hr hne hm hs1 ha1 hm1 hM1 hcv hq
    go_enter Try.func25, Try.ntmps25
    go_wp2_with (first
      | (go_at_call 35; refine (HN.out _).mono ?_; rintro e w1 ⟨rfl, hb1⟩; have hx1 : Blk w1 w.heap.size 28 M := ((Blk.new w 28 M).alloc _).below hb1 (by simp; omega); have hR1 : Blk w1 (w.heap.size + 1) 28 Z := (Blk.newAt _ _ (by simp) (by rw [← HZ.out]; kernel_rfl)).below hb1 (by simp); have hw1 : Below w.heap.size w w1 := (((Below.refl _ w).alloc (Nat.le_refl _) _).alloc (by simp) _).trans (hb1.mono (by simp; omega)); have HW1 := Lib.hid hw1; clear hb1 hw1; have kc : w1.cell? ⟨w.heap.size, 2, none⟩ = some (.int .i64 r.height) := (hx1.cell 2).trans HCV.out; have kf := hx1.frozen 2; have hx2 : Blk (w1.setCell ⟨w.heap.size, 2, none⟩ (.int .i64 (n : Int))) w.heap.size 28 M1 := (hx1.store 2 _).same HM1.out; have hR2 : Blk (w1.setCell ⟨w.heap.size, 2, none⟩ (.int .i64 (n : Int))) (w.heap.size + 1) 28 Z := hR1.far (by show w.heap.size + 1 ≠ w.heap.size; omega) _)
      | (guard_target = wpList _ _ _ _ _ _; refine wpList_load_row rfl 28 _ rfl w.heap.size rfl 28 M1 (0, 0) _ hx2 Try.underlying28 rfl (by rw [HS1.out]; kernel_rfl) ?_)
      | (guard_target = wpList _ _ _ _ _ _; refine wpList_store_arrW rfl 28 _ _ rfl (w.heap.size + 1) M1 rfl rfl 28 _ hR2 (by rw [HS1.out]; kernel_rfl) (by rw [HS1.out, HZS.out]) HA1.out ?_; intro W9 hS9 hz9 hb9 ho9))
    refine bodyPost_ret (results_cell_tmp (p := 6) (q := 7) rfl _ _ (w.heap.size + 1) 28 _ _ rfl hS9 Try.underlying28 rfl (by rw [HS1.out]; kernel_rfl)) rfl ?_
    exact ⟨fun h => (by cases h), fun n2 h => (by cases h; rw [HQ.out.2]; rfl), (HW1.out.setCell (Nat.le_refl _) _).trans (hb9.mono (by omega))⟩
set_option maxRecDepth 100000 in
set_option maxHeartbeats 4000000 in
theorem refPut3 (r : Raw) (d i l : Value) (bs : List UInt8) (hne : bs ≠ []) (hm : bs.length ≤ 140737488351232) (w : World) (hr : RdR w (fun b => b < w.heap.size) r d i l) :
    Calls Try.prog 25 #[.agg (msgA r d i l), .int .i64 3, .string ⟨bs.toArray⟩] w fun e w' => (number bs = none → ∃ M, e = .returned (.tuple #[.agg M, .int .i64 23]) ∧ M.size = 41 ∧ M.all (·.oneCell') = true) ∧ (∀ n, number bs = some n → e = .returned (.tuple #[.agg (msgA { r with round := (n : Int) } d i l), .int .i64 0])) ∧ Below w.heap.size w w' := by
  have hnum := refNumber_any bs hne hm
  have hem := str_some hne
  have hs : (msgA r d i l).size = 41 := arr_size _ _
  have ha : (msgA r d i l).all (·.oneCell') = true := msg_all hr
  obtain ⟨S, hS⟩ : ∃ S : ByteArray, ⟨bs.toArray⟩ = S := ⟨_, rfl⟩
  have hz : (msgA (zeroRaw 0) nilS nilS nilS) = (msgA (zeroRaw 0) nilS nilS nilS) := rfl
  obtain ⟨Z, hZ⟩ : ∃ Z, msgA (zeroRaw 0) nilS nilS nilS = Z := ⟨_, rfl⟩
  have hzs : Z.size = 41 := by rw [← hZ]; exact arr_size _ _
  have HZ := Lib.hid hZ
  have HZS := Lib.hid hzs
  unfold RefNumOut at hnum
  cases hq : number bs with
  | none =>
    rw [hq] at hnum
    obtain ⟨M, hM⟩ : ∃ M, msgA r d i l = M := ⟨_, rfl⟩
    rw [hM] at hs ha ⊢
    rw [hS] at hem hnum ⊢
    have HN := Lib.hid hnum
    have HSZ := Lib.hid hs
    have HA := Lib.hid ha
    clear hnum hs ha hM hS hZ hzs hz hr hq hne hm
    go_enter Try.func25, Try.ntmps25
    go_wp2_with (first
      | (go_at_call 35; refine (HN.out _).mono ?_; rintro e w1 ⟨⟨z, rfl⟩, hb1⟩; have hx1 : Blk w1 w.heap.size 28 M := ((Blk.new w 28 M).alloc _).below hb1 (by simp; omega); have hR1 : Blk w1 (w.heap.size + 1) 28 Z := (Blk.newAt _ _ (by simp) (by rw [← HZ.out]; kernel_rfl)).below hb1 (by simp); have hw1 : Below w.heap.size w w1 := (((Below.refl _ w).alloc (Nat.le_refl _) _).alloc (by simp) _).trans (hb1.mono (by simp; omega)); have HW1 := Lib.hid hw1; clear hb1 hw1)
      | (guard_target = wpList _ _ _ _ _ _; refine wpList_load_row rfl 28 _ rfl w.heap.size rfl 28 M (0, 0) _ hx1 Try.underlying28 rfl (by rw [HSZ.out]; kernel_rfl) ?_)
      | (guard_target = wpList _ _ _ _ _ _; refine wpList_store_arrW rfl 28 _ _ rfl (w.heap.size + 1) M rfl rfl 28 _ hR1 (by rw [HSZ.out]; kernel_rfl) (by rw [HSZ.out, HZS.out]) HA.out ?_; intro W9 hS9 hz9 hb9 ho9))
    refine bodyPost_ret (results_cell_tmp (p := 6) (q := 7) rfl _ _ (w.heap.size + 1) 28 _ _ rfl hS9 Try.underlying28 rfl (by rw [HSZ.out]; kernel_rfl)) rfl ?_
    exact ⟨fun _ => ⟨_, rfl, HSZ.out, HA.out⟩, fun n h => (by cases h), HW1.out.trans (hb9.mono (by omega))⟩
  | some n =>
    rw [hq] at hnum
    have hm1 := ref_set3 r d i l (n : Int)
    have ha1 : (msgA { r with round := (n : Int) } d i l).all (·.oneCell') = true := msg_all (r := { r with round := (n : Int) }) ⟨hr.data, hr.ids, hr.list⟩
    have hs1 : (msgA { r with round := (n : Int) } d i l).size = 41 := arr_size _ _
    have hcv : (msgA r d i l)[3]? = some (.int .i64 r.round) := by rw [msgA, arr_get]; rfl
    obtain ⟨M, hM⟩ : ∃ M, msgA r d i l = M := ⟨_, rfl⟩
    obtain ⟨M1, hM1⟩ : ∃ M1, msgA { r with round := (n : Int) } d i l = M1 := ⟨_, rfl⟩
    rw [hM, hM1] at hm1
    rw [hM] at hs hcv ⊢
    rw [hM1] at hs1 ha1
    rw [hS] at hem hnum ⊢
    have HN := Lib.hid hnum
    have HSZ := Lib.hid hs
    have HS1 := Lib.hid hs1
    have HA1 := Lib.hid ha1
    have HM1 := Lib.hid hm1
    have HCV := Lib.hid hcv
    have HQ := Lib.hid (And.intro hq hM1)
    clear hnum hs ha hM hS hZ hzs hz hr hne hm hs1 ha1 hm1 hM1 hcv hq
    go_enter Try.func25, Try.ntmps25
    go_wp2_with (first
      | (go_at_call 35; refine (HN.out _).mono ?_; rintro e w1 ⟨rfl, hb1⟩; have hx1 : Blk w1 w.heap.size 28 M := ((Blk.new w 28 M).alloc _).below hb1 (by simp; omega); have hR1 : Blk w1 (w.heap.size + 1) 28 Z := (Blk.newAt _ _ (by simp) (by rw [← HZ.out]; kernel_rfl)).below hb1 (by simp); have hw1 : Below w.heap.size w w1 := (((Below.refl _ w).alloc (Nat.le_refl _) _).alloc (by simp) _).trans (hb1.mono (by simp; omega)); have HW1 := Lib.hid hw1; clear hb1 hw1; have kc : w1.cell? ⟨w.heap.size, 3, none⟩ = some (.int .i64 r.round) := (hx1.cell 3).trans HCV.out; have kf := hx1.frozen 3; have hx2 : Blk (w1.setCell ⟨w.heap.size, 3, none⟩ (.int .i64 (n : Int))) w.heap.size 28 M1 := (hx1.store 3 _).same HM1.out; have hR2 : Blk (w1.setCell ⟨w.heap.size, 3, none⟩ (.int .i64 (n : Int))) (w.heap.size + 1) 28 Z := hR1.far (by show w.heap.size + 1 ≠ w.heap.size; omega) _)
      | (guard_target = wpList _ _ _ _ _ _; refine wpList_load_row rfl 28 _ rfl w.heap.size rfl 28 M1 (0, 0) _ hx2 Try.underlying28 rfl (by rw [HS1.out]; kernel_rfl) ?_)
      | (guard_target = wpList _ _ _ _ _ _; refine wpList_store_arrW rfl 28 _ _ rfl (w.heap.size + 1) M1 rfl rfl 28 _ hR2 (by rw [HS1.out]; kernel_rfl) (by rw [HS1.out, HZS.out]) HA1.out ?_; intro W9 hS9 hz9 hb9 ho9))
    refine bodyPost_ret (results_cell_tmp (p := 6) (q := 7) rfl _ _ (w.heap.size + 1) 28 _ _ rfl hS9 Try.underlying28 rfl (by rw [HS1.out]; kernel_rfl)) rfl ?_
    exact ⟨fun h => (by cases h), fun n2 h => (by cases h; rw [HQ.out.2]; rfl), (HW1.out.setCell (Nat.le_refl _) _).trans (hb9.mono (by omega))⟩
set_option maxRecDepth 100000 in
set_option maxHeartbeats 4000000 in
theorem refPut4 (r : Raw) (d i l : Value) (bs : List UInt8) (hne : bs ≠ []) (hm : bs.length ≤ 140737488351232) (w : World) (hr : RdR w (fun b => b < w.heap.size) r d i l) :
    Calls Try.prog 25 #[.agg (msgA r d i l), .int .i64 4, .string ⟨bs.toArray⟩] w fun e w' => (number bs = none → ∃ M, e = .returned (.tuple #[.agg M, .int .i64 23]) ∧ M.size = 41 ∧ M.all (·.oneCell') = true) ∧ (∀ n, number bs = some n → e = .returned (.tuple #[.agg (msgA { r with valid := (n : Int) } d i l), .int .i64 0])) ∧ Below w.heap.size w w' := by
  have hnum := refNumber_any bs hne hm
  have hem := str_some hne
  have hs : (msgA r d i l).size = 41 := arr_size _ _
  have ha : (msgA r d i l).all (·.oneCell') = true := msg_all hr
  obtain ⟨S, hS⟩ : ∃ S : ByteArray, ⟨bs.toArray⟩ = S := ⟨_, rfl⟩
  have hz : (msgA (zeroRaw 0) nilS nilS nilS) = (msgA (zeroRaw 0) nilS nilS nilS) := rfl
  obtain ⟨Z, hZ⟩ : ∃ Z, msgA (zeroRaw 0) nilS nilS nilS = Z := ⟨_, rfl⟩
  have hzs : Z.size = 41 := by rw [← hZ]; exact arr_size _ _
  have HZ := Lib.hid hZ
  have HZS := Lib.hid hzs
  unfold RefNumOut at hnum
  cases hq : number bs with
  | none =>
    rw [hq] at hnum
    obtain ⟨M, hM⟩ : ∃ M, msgA r d i l = M := ⟨_, rfl⟩
    rw [hM] at hs ha ⊢
    rw [hS] at hem hnum ⊢
    have HN := Lib.hid hnum
    have HSZ := Lib.hid hs
    have HA := Lib.hid ha
    clear hnum hs ha hM hS hZ hzs hz hr hq hne hm
    go_enter Try.func25, Try.ntmps25
    go_wp2_with (first
      | (go_at_call 35; refine (HN.out _).mono ?_; rintro e w1 ⟨⟨z, rfl⟩, hb1⟩; have hx1 : Blk w1 w.heap.size 28 M := ((Blk.new w 28 M).alloc _).below hb1 (by simp; omega); have hR1 : Blk w1 (w.heap.size + 1) 28 Z := (Blk.newAt _ _ (by simp) (by rw [← HZ.out]; kernel_rfl)).below hb1 (by simp); have hw1 : Below w.heap.size w w1 := (((Below.refl _ w).alloc (Nat.le_refl _) _).alloc (by simp) _).trans (hb1.mono (by simp; omega)); have HW1 := Lib.hid hw1; clear hb1 hw1)
      | (guard_target = wpList _ _ _ _ _ _; refine wpList_load_row rfl 28 _ rfl w.heap.size rfl 28 M (0, 0) _ hx1 Try.underlying28 rfl (by rw [HSZ.out]; kernel_rfl) ?_)
      | (guard_target = wpList _ _ _ _ _ _; refine wpList_store_arrW rfl 28 _ _ rfl (w.heap.size + 1) M rfl rfl 28 _ hR1 (by rw [HSZ.out]; kernel_rfl) (by rw [HSZ.out, HZS.out]) HA.out ?_; intro W9 hS9 hz9 hb9 ho9))
    refine bodyPost_ret (results_cell_tmp (p := 6) (q := 7) rfl _ _ (w.heap.size + 1) 28 _ _ rfl hS9 Try.underlying28 rfl (by rw [HSZ.out]; kernel_rfl)) rfl ?_
    exact ⟨fun _ => ⟨_, rfl, HSZ.out, HA.out⟩, fun n h => (by cases h), HW1.out.trans (hb9.mono (by omega))⟩
  | some n =>
    rw [hq] at hnum
    have hm1 := ref_set4 r d i l (n : Int)
    have ha1 : (msgA { r with valid := (n : Int) } d i l).all (·.oneCell') = true := msg_all (r := { r with valid := (n : Int) }) ⟨hr.data, hr.ids, hr.list⟩
    have hs1 : (msgA { r with valid := (n : Int) } d i l).size = 41 := arr_size _ _
    have hcv : (msgA r d i l)[4]? = some (.int .i64 r.valid) := by rw [msgA, arr_get]; rfl
    obtain ⟨M, hM⟩ : ∃ M, msgA r d i l = M := ⟨_, rfl⟩
    obtain ⟨M1, hM1⟩ : ∃ M1, msgA { r with valid := (n : Int) } d i l = M1 := ⟨_, rfl⟩
    rw [hM, hM1] at hm1
    rw [hM] at hs hcv ⊢
    rw [hM1] at hs1 ha1
    rw [hS] at hem hnum ⊢
    have HN := Lib.hid hnum
    have HSZ := Lib.hid hs
    have HS1 := Lib.hid hs1
    have HA1 := Lib.hid ha1
    have HM1 := Lib.hid hm1
    have HCV := Lib.hid hcv
    have HQ := Lib.hid (And.intro hq hM1)
    clear hnum hs ha hM hS hZ hzs hz hr hne hm hs1 ha1 hm1 hM1 hcv hq
    go_enter Try.func25, Try.ntmps25
    go_wp2_with (first
      | (go_at_call 35; refine (HN.out _).mono ?_; rintro e w1 ⟨rfl, hb1⟩; have hx1 : Blk w1 w.heap.size 28 M := ((Blk.new w 28 M).alloc _).below hb1 (by simp; omega); have hR1 : Blk w1 (w.heap.size + 1) 28 Z := (Blk.newAt _ _ (by simp) (by rw [← HZ.out]; kernel_rfl)).below hb1 (by simp); have hw1 : Below w.heap.size w w1 := (((Below.refl _ w).alloc (Nat.le_refl _) _).alloc (by simp) _).trans (hb1.mono (by simp; omega)); have HW1 := Lib.hid hw1; clear hb1 hw1; have kc : w1.cell? ⟨w.heap.size, 4, none⟩ = some (.int .i64 r.valid) := (hx1.cell 4).trans HCV.out; have kf := hx1.frozen 4; have hx2 : Blk (w1.setCell ⟨w.heap.size, 4, none⟩ (.int .i64 (n : Int))) w.heap.size 28 M1 := (hx1.store 4 _).same HM1.out; have hR2 : Blk (w1.setCell ⟨w.heap.size, 4, none⟩ (.int .i64 (n : Int))) (w.heap.size + 1) 28 Z := hR1.far (by show w.heap.size + 1 ≠ w.heap.size; omega) _)
      | (guard_target = wpList _ _ _ _ _ _; refine wpList_load_row rfl 28 _ rfl w.heap.size rfl 28 M1 (0, 0) _ hx2 Try.underlying28 rfl (by rw [HS1.out]; kernel_rfl) ?_)
      | (guard_target = wpList _ _ _ _ _ _; refine wpList_store_arrW rfl 28 _ _ rfl (w.heap.size + 1) M1 rfl rfl 28 _ hR2 (by rw [HS1.out]; kernel_rfl) (by rw [HS1.out, HZS.out]) HA1.out ?_; intro W9 hS9 hz9 hb9 ho9))
    refine bodyPost_ret (results_cell_tmp (p := 6) (q := 7) rfl _ _ (w.heap.size + 1) 28 _ _ rfl hS9 Try.underlying28 rfl (by rw [HS1.out]; kernel_rfl)) rfl ?_
    exact ⟨fun h => (by cases h), fun n2 h => (by cases h; rw [HQ.out.2]; rfl), (HW1.out.setCell (Nat.le_refl _) _).trans (hb9.mono (by omega))⟩
set_option maxRecDepth 100000 in
set_option maxHeartbeats 4000000 in
theorem refPut5 (r : Raw) (d i l : Value) (bs : List UInt8) (hne : bs ≠ []) (hm : bs.length ≤ 140737488351232) (w : World) (hr : RdR w (fun b => b < w.heap.size) r d i l) :
    Calls Try.prog 25 #[.agg (msgA r d i l), .int .i64 5, .string ⟨bs.toArray⟩] w fun e w' => (number bs = none → ∃ M, e = .returned (.tuple #[.agg M, .int .i64 23]) ∧ M.size = 41 ∧ M.all (·.oneCell') = true) ∧ (∀ n, number bs = some n → e = .returned (.tuple #[.agg (msgA { r with num := (n : Int) } d i l), .int .i64 0])) ∧ Below w.heap.size w w' := by
  have hnum := refNumber_any bs hne hm
  have hem := str_some hne
  have hs : (msgA r d i l).size = 41 := arr_size _ _
  have ha : (msgA r d i l).all (·.oneCell') = true := msg_all hr
  obtain ⟨S, hS⟩ : ∃ S : ByteArray, ⟨bs.toArray⟩ = S := ⟨_, rfl⟩
  have hz : (msgA (zeroRaw 0) nilS nilS nilS) = (msgA (zeroRaw 0) nilS nilS nilS) := rfl
  obtain ⟨Z, hZ⟩ : ∃ Z, msgA (zeroRaw 0) nilS nilS nilS = Z := ⟨_, rfl⟩
  have hzs : Z.size = 41 := by rw [← hZ]; exact arr_size _ _
  have HZ := Lib.hid hZ
  have HZS := Lib.hid hzs
  unfold RefNumOut at hnum
  cases hq : number bs with
  | none =>
    rw [hq] at hnum
    obtain ⟨M, hM⟩ : ∃ M, msgA r d i l = M := ⟨_, rfl⟩
    rw [hM] at hs ha ⊢
    rw [hS] at hem hnum ⊢
    have HN := Lib.hid hnum
    have HSZ := Lib.hid hs
    have HA := Lib.hid ha
    clear hnum hs ha hM hS hZ hzs hz hr hq hne hm
    go_enter Try.func25, Try.ntmps25
    go_wp2_with (first
      | (go_at_call 35; refine (HN.out _).mono ?_; rintro e w1 ⟨⟨z, rfl⟩, hb1⟩; have hx1 : Blk w1 w.heap.size 28 M := ((Blk.new w 28 M).alloc _).below hb1 (by simp; omega); have hR1 : Blk w1 (w.heap.size + 1) 28 Z := (Blk.newAt _ _ (by simp) (by rw [← HZ.out]; kernel_rfl)).below hb1 (by simp); have hw1 : Below w.heap.size w w1 := (((Below.refl _ w).alloc (Nat.le_refl _) _).alloc (by simp) _).trans (hb1.mono (by simp; omega)); have HW1 := Lib.hid hw1; clear hb1 hw1)
      | (guard_target = wpList _ _ _ _ _ _; refine wpList_load_row rfl 28 _ rfl w.heap.size rfl 28 M (0, 0) _ hx1 Try.underlying28 rfl (by rw [HSZ.out]; kernel_rfl) ?_)
      | (guard_target = wpList _ _ _ _ _ _; refine wpList_store_arrW rfl 28 _ _ rfl (w.heap.size + 1) M rfl rfl 28 _ hR1 (by rw [HSZ.out]; kernel_rfl) (by rw [HSZ.out, HZS.out]) HA.out ?_; intro W9 hS9 hz9 hb9 ho9))
    refine bodyPost_ret (results_cell_tmp (p := 6) (q := 7) rfl _ _ (w.heap.size + 1) 28 _ _ rfl hS9 Try.underlying28 rfl (by rw [HSZ.out]; kernel_rfl)) rfl ?_
    exact ⟨fun _ => ⟨_, rfl, HSZ.out, HA.out⟩, fun n h => (by cases h), HW1.out.trans (hb9.mono (by omega))⟩
  | some n =>
    rw [hq] at hnum
    have hm1 := ref_set5 r d i l (n : Int)
    have ha1 : (msgA { r with num := (n : Int) } d i l).all (·.oneCell') = true := msg_all (r := { r with num := (n : Int) }) ⟨hr.data, hr.ids, hr.list⟩
    have hs1 : (msgA { r with num := (n : Int) } d i l).size = 41 := arr_size _ _
    have hcv : (msgA r d i l)[5]? = some (.int .i64 r.num) := by rw [msgA, arr_get]; rfl
    obtain ⟨M, hM⟩ : ∃ M, msgA r d i l = M := ⟨_, rfl⟩
    obtain ⟨M1, hM1⟩ : ∃ M1, msgA { r with num := (n : Int) } d i l = M1 := ⟨_, rfl⟩
    rw [hM, hM1] at hm1
    rw [hM] at hs hcv ⊢
    rw [hM1] at hs1 ha1
    rw [hS] at hem hnum ⊢
    have HN := Lib.hid hnum
    have HSZ := Lib.hid hs
    have HS1 := Lib.hid hs1
    have HA1 := Lib.hid ha1
    have HM1 := Lib.hid hm1
    have HCV := Lib.hid hcv
    have HQ := Lib.hid (And.intro hq hM1)
    clear hnum hs ha hM hS hZ hzs hz hr hne hm hs1 ha1 hm1 hM1 hcv hq
    go_enter Try.func25, Try.ntmps25
    go_wp2_with (first
      | (go_at_call 35; refine (HN.out _).mono ?_; rintro e w1 ⟨rfl, hb1⟩; have hx1 : Blk w1 w.heap.size 28 M := ((Blk.new w 28 M).alloc _).below hb1 (by simp; omega); have hR1 : Blk w1 (w.heap.size + 1) 28 Z := (Blk.newAt _ _ (by simp) (by rw [← HZ.out]; kernel_rfl)).below hb1 (by simp); have hw1 : Below w.heap.size w w1 := (((Below.refl _ w).alloc (Nat.le_refl _) _).alloc (by simp) _).trans (hb1.mono (by simp; omega)); have HW1 := Lib.hid hw1; clear hb1 hw1; have kc : w1.cell? ⟨w.heap.size, 5, none⟩ = some (.int .i64 r.num) := (hx1.cell 5).trans HCV.out; have kf := hx1.frozen 5; have hx2 : Blk (w1.setCell ⟨w.heap.size, 5, none⟩ (.int .i64 (n : Int))) w.heap.size 28 M1 := (hx1.store 5 _).same HM1.out; have hR2 : Blk (w1.setCell ⟨w.heap.size, 5, none⟩ (.int .i64 (n : Int))) (w.heap.size + 1) 28 Z := hR1.far (by show w.heap.size + 1 ≠ w.heap.size; omega) _)
      | (guard_target = wpList _ _ _ _ _ _; refine wpList_load_row rfl 28 _ rfl w.heap.size rfl 28 M1 (0, 0) _ hx2 Try.underlying28 rfl (by rw [HS1.out]; kernel_rfl) ?_)
      | (guard_target = wpList _ _ _ _ _ _; refine wpList_store_arrW rfl 28 _ _ rfl (w.heap.size + 1) M1 rfl rfl 28 _ hR2 (by rw [HS1.out]; kernel_rfl) (by rw [HS1.out, HZS.out]) HA1.out ?_; intro W9 hS9 hz9 hb9 ho9))
    refine bodyPost_ret (results_cell_tmp (p := 6) (q := 7) rfl _ _ (w.heap.size + 1) 28 _ _ rfl hS9 Try.underlying28 rfl (by rw [HS1.out]; kernel_rfl)) rfl ?_
    exact ⟨fun h => (by cases h), fun n2 h => (by cases h; rw [HQ.out.2]; rfl), (HW1.out.setCell (Nat.le_refl _) _).trans (hb9.mono (by omega))⟩
end Go.Proofs.Ytngceddlieimmaa
