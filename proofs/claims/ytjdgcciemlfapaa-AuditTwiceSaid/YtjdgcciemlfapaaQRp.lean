/-
  The reference's put, for the five numbers: for every message that reads, any string that isn't empty, in whatever memory.
  The reference's put, for the bytes of Data: for every message that reads, any string that isn't empty, in whatever memory. Besides: a string's bytes in new memory.
  The reference's put, for the ID: for every message that reads, any string that isn't empty, in whatever memory.
  The reference's put, for the entries of List: for every message that reads and has none yet, any string that isn't empty, in whatever memory.
  The reference's put, for the IDs: for every message that reads and has none yet, any string that isn't empty, in whatever memory.
  The reference's put, for all nine tags: for every message that reads, any string that isn't empty, in whatever memory: what the plain mathematics says.
-/
import Derived.Test.YtjdgcciemlfapaaPackRefRead
import Derived.Test.YtjdgcciemlfapaaPackSameH
import Derived.Test.YtjdgcciemlfapaaPackReadMath
import Derived.Test.YtjdgcciemlfapaaPackWrite
import Derived.Test.YtjdgcciemlfapaaPackRefParts
import Derived.Test.YtjdgcciemlfapaaPackFields
import Derived.Lib.SlBytesConst
import Derived.Lib.SmallJoins
import Derived.Deep.AppendSrc
import Derived.Lib.SlBuf
import Derived.Test.YtjdgcciemlfapaaPackListBase
import Derived.Great.BuildSlice
namespace Go.Proofs.Ytjdgcciemlfapaa
open Go Go.RowKit PackMath

theorem str_some {bs : List UInt8} (h : bs ≠ []) : (⟨bs.toArray⟩ : ByteArray).toList.isEmpty = false := by
  rw [ByteArray.toList_eq]
  cases bs with
  | nil => exact absurd rfl h
  | cons y t => rfl
theorem ref_set1 (r : Raw) (d i l : Value) (n : Int) : (msgA r d i l).setIfInBounds 1 (.int .i64 n) = msgA { r with who := n } d i l := by
  rw [msgA, set_row _ _ _ _ (by omega)]
  refine arr_congr fun j hj => ?_
  match j with
  | 0 => rfl
  | 1 => rfl
  | 2 => rfl
  | 3 => rfl
  | 4 => rfl
  | 5 => rfl
  | m + 6 => rfl
theorem ref_set2 (r : Raw) (d i l : Value) (n : Int) : (msgA r d i l).setIfInBounds 2 (.int .i64 n) = msgA { r with height := n } d i l := by
  rw [msgA, set_row _ _ _ _ (by omega)]
  refine arr_congr fun j hj => ?_
  match j with
  | 0 => rfl
  | 1 => rfl
  | 2 => rfl
  | 3 => rfl
  | 4 => rfl
  | 5 => rfl
  | m + 6 => rfl
theorem ref_set3 (r : Raw) (d i l : Value) (n : Int) : (msgA r d i l).setIfInBounds 3 (.int .i64 n) = msgA { r with round := n } d i l := by
  rw [msgA, set_row _ _ _ _ (by omega)]
  refine arr_congr fun j hj => ?_
  match j with
  | 0 => rfl
  | 1 => rfl
  | 2 => rfl
  | 3 => rfl
  | 4 => rfl
  | 5 => rfl
  | m + 6 => rfl
theorem ref_set4 (r : Raw) (d i l : Value) (n : Int) : (msgA r d i l).setIfInBounds 4 (.int .i64 n) = msgA { r with valid := n } d i l := by
  rw [msgA, set_row _ _ _ _ (by omega)]
  refine arr_congr fun j hj => ?_
  match j with
  | 0 => rfl
  | 1 => rfl
  | 2 => rfl
  | 3 => rfl
  | 4 => rfl
  | 5 => rfl
  | m + 6 => rfl
theorem ref_set5 (r : Raw) (d i l : Value) (n : Int) : (msgA r d i l).setIfInBounds 5 (.int .i64 n) = msgA { r with num := n } d i l := by
  rw [msgA, set_row _ _ _ _ (by omega)]
  refine arr_congr fun j hj => ?_
  match j with
  | 0 => rfl
  | 1 => rfl
  | 2 => rfl
  | 3 => rfl
  | 4 => rfl
  | 5 => rfl
  | m + 6 => rfl
set_option maxRecDepth 100000 in
set_option maxHeartbeats 4000000 in
theorem refPut1 (r : Raw) (d i l : Value) (bs : List UInt8) (hne : bs ≠ []) (hm : bs.length ≤ 140737488351232) (w : World) (hr : RdR w (fun b => b < w.heap.size) r d i l) :
    Calls Try.prog 27 #[.agg (msgA r d i l), .int .i64 1, .string ⟨bs.toArray⟩] w fun e w' => (number bs = none → ∃ M, e = .returned (.tuple #[.agg M, .int .i64 23]) ∧ M.size = 41 ∧ M.all (·.oneCell') = true) ∧ (∀ n, number bs = some n → e = .returned (.tuple #[.agg (msgA { r with who := (n : Int) } d i l), .int .i64 0])) ∧ Below w.heap.size w w' := by
  have hnum := refNumber_any bs hne hm
  have hem := str_some hne
  have hs : (msgA r d i l).size = 41 := arr_size _ _
  have ha : (msgA r d i l).all (·.oneCell') = true := msg_all hr
  obtain ⟨S, hS⟩ : ∃ S : ByteArray, ⟨bs.toArray⟩ = S := ⟨_, rfl⟩
  have hz : (msgA (zeroRaw 0) nilS nilS nilS) = (msgA (zeroRaw 0) nilS nilS nilS) := rfl
  obtain ⟨Z, hZ⟩ : ∃ Z, msgA (zeroRaw 0) nilS nilS nilS = Z := ⟨_, rfl⟩
  have hzs : Z.size = 41 := by rw [← hZ]; exact arr_size _ _
  have HZ := Lib.hid hZ
  have HZS := Lib.hid hzs
  unfold RefNumOut at hnum
  cases hq : number bs with
  | none =>
    rw [hq] at hnum
    obtain ⟨M, hM⟩ : ∃ M, msgA r d i l = M := ⟨_, rfl⟩
    rw [hM] at hs ha ⊢
    rw [hS] at hem hnum ⊢
    have HN := Lib.hid hnum
    have HSZ := Lib.hid hs
    have HA := Lib.hid ha
    clear hnum hs ha hM hS hZ hzs hz hr hq hne hm
    go_enter Try.func27, Try.ntmps27
    go_wp2_with (first
      | (go_at_call 41; refine (HN.out _).mono ?_; rintro e w1 ⟨⟨z, rfl⟩, hb1⟩; have hx1 : Blk w1 w.heap.size 28 M := ((Blk.new w 28 M).alloc _).below hb1 (by simp; omega); have hR1 : Blk w1 (w.heap.size + 1) 28 Z := (Blk.newAt _ _ (by simp) (by rw [← HZ.out]; kernel_rfl)).below hb1 (by simp); have hw1 : Below w.heap.size w w1 := (((Below.refl _ w).alloc (Nat.le_refl _) _).alloc (by simp) _).trans (hb1.mono (by simp; omega)); have HW1 := Lib.hid hw1; clear hb1 hw1)
      | (guard_target = wpList _ _ _ _ _ _; refine wpList_load_row rfl 28 _ rfl w.heap.size rfl 28 M (0, 0) _ hx1 Try.underlying28 rfl (by rw [HSZ.out]; kernel_rfl) ?_)
      | (guard_target = wpList _ _ _ _ _ _; refine wpList_store_arrW rfl 28 _ _ rfl (w.heap.size + 1) M rfl rfl 28 _ hR1 (by rw [HSZ.out]; kernel_rfl) (by rw [HSZ.out, HZS.out]) HA.out ?_; intro W9 hS9 hz9 hb9 ho9))
    refine bodyPost_ret (results_cell_tmp (p := 6) (q := 7) rfl _ _ (w.heap.size + 1) 28 _ _ rfl hS9 Try.underlying28 rfl (by rw [HSZ.out]; kernel_rfl)) rfl ?_
    exact ⟨fun _ => ⟨_, rfl, HSZ.out, HA.out⟩, fun n h => (by cases h), HW1.out.trans (hb9.mono (by omega))⟩
  | some n =>
    rw [hq] at hnum
    have hm1 := ref_set1 r d i l (n : Int)
    have ha1 : (msgA { r with who := (n : Int) } d i l).all (·.oneCell') = true := msg_all (r := { r with who := (n : Int) }) ⟨hr.data, hr.ids, hr.list⟩
    have hs1 : (msgA { r with who := (n : Int) } d i l).size = 41 := arr_size _ _
    have hcv : (msgA r d i l)[1]? = some (.int .i64 r.who) := by rw [msgA, arr_get]; rfl
    obtain ⟨M, hM⟩ : ∃ M, msgA r d i l = M := ⟨_, rfl⟩
    obtain ⟨M1, hM1⟩ : ∃ M1, msgA { r with who := (n : Int) } d i l = M1 := ⟨_, rfl⟩
    rw [hM, hM1] at hm1
    rw [hM] at hs hcv ⊢
    rw [hM1] at hs1 ha1
    rw [hS] at hem hnum ⊢
    have HN := Lib.hid hnum
    have HSZ := Lib.hid hs
    have HS1 := Lib.hid hs1
    have HA1 := Lib.hid ha1
    have HM1 := Lib.hid hm1
    have HCV := Lib.hid hcv
    have HQ := Lib.hid (And.intro hq hM1)
    clear hnum hs ha hM hS hZ hzs hz hr hne hm hs1 ha1 hm1 hM1 hcv hq
    go_enter Try.func27, Try.ntmps27
    go_wp2_with (first
      | (go_at_call 41; refine (HN.out _).mono ?_; rintro e w1 ⟨rfl, hb1⟩; have hx1 : Blk w1 w.heap.size 28 M := ((Blk.new w 28 M).alloc _).below hb1 (by simp; omega); have hR1 : Blk w1 (w.heap.size + 1) 28 Z := (Blk.newAt _ _ (by simp) (by rw [← HZ.out]; kernel_rfl)).below hb1 (by simp); have hw1 : Below w.heap.size w w1 := (((Below.refl _ w).alloc (Nat.le_refl _) _).alloc (by simp) _).trans (hb1.mono (by simp; omega)); have HW1 := Lib.hid hw1; clear hb1 hw1; have kc : w1.cell? ⟨w.heap.size, 1, none⟩ = some (.int .i64 r.who) := (hx1.cell 1).trans HCV.out; have kf := hx1.frozen 1; have hx2 : Blk (w1.setCell ⟨w.heap.size, 1, none⟩ (.int .i64 (n : Int))) w.heap.size 28 M1 := (hx1.store 1 _).same HM1.out; have hR2 : Blk (w1.setCell ⟨w.heap.size, 1, none⟩ (.int .i64 (n : Int))) (w.heap.size + 1) 28 Z := hR1.far (by show w.heap.size + 1 ≠ w.heap.size; omega) _)
      | (guard_target = wpList _ _ _ _ _ _; refine wpList_load_row rfl 28 _ rfl w.heap.size rfl 28 M1 (0, 0) _ hx2 Try.underlying28 rfl (by rw [HS1.out]; kernel_rfl) ?_)
      | (guard_target = wpList _ _ _ _ _ _; refine wpList_store_arrW rfl 28 _ _ rfl (w.heap.size + 1) M1 rfl rfl 28 _ hR2 (by rw [HS1.out]; kernel_rfl) (by rw [HS1.out, HZS.out]) HA1.out ?_; intro W9 hS9 hz9 hb9 ho9))
    refine bodyPost_ret (results_cell_tmp (p := 6) (q := 7) rfl _ _ (w.heap.size + 1) 28 _ _ rfl hS9 Try.underlying28 rfl (by rw [HS1.out]; kernel_rfl)) rfl ?_
    exact ⟨fun h => (by cases h), fun n2 h => (by cases h; rw [HQ.out.2]; rfl), (HW1.out.setCell (Nat.le_refl _) _).trans (hb9.mono (by omega))⟩
set_option maxRecDepth 100000 in
set_option maxHeartbeats 4000000 in
theorem refPut2 (r : Raw) (d i l : Value) (bs : List UInt8) (hne : bs ≠ []) (hm : bs.length ≤ 140737488351232) (w : World) (hr : RdR w (fun b => b < w.heap.size) r d i l) :
    Calls Try.prog 27 #[.agg (msgA r d i l), .int .i64 2, .string ⟨bs.toArray⟩] w fun e w' => (number bs = none → ∃ M, e = .returned (.tuple #[.agg M, .int .i64 23]) ∧ M.size = 41 ∧ M.all (·.oneCell') = true) ∧ (∀ n, number bs = some n → e = .returned (.tuple #[.agg (msgA { r with height := (n : Int) } d i l), .int .i64 0])) ∧ Below w.heap.size w w' := by
  have hnum := refNumber_any bs hne hm
  have hem := str_some hne
  have hs : (msgA r d i l).size = 41 := arr_size _ _
  have ha : (msgA r d i l).all (·.oneCell') = true := msg_all hr
  obtain ⟨S, hS⟩ : ∃ S : ByteArray, ⟨bs.toArray⟩ = S := ⟨_, rfl⟩
  have hz : (msgA (zeroRaw 0) nilS nilS nilS) = (msgA (zeroRaw 0) nilS nilS nilS) := rfl
  obtain ⟨Z, hZ⟩ : ∃ Z, msgA (zeroRaw 0) nilS nilS nilS = Z := ⟨_, rfl⟩
  have hzs : Z.size = 41 := by rw [← hZ]; exact arr_size _ _
  have HZ := Lib.hid hZ
  have HZS := Lib.hid hzs
  unfold RefNumOut at hnum
  cases hq : number bs with
  | none =>
    rw [hq] at hnum
    obtain ⟨M, hM⟩ : ∃ M, msgA r d i l = M := ⟨_, rfl⟩
    rw [hM] at hs ha ⊢
    rw [hS] at hem hnum ⊢
    have HN := Lib.hid hnum
    have HSZ := Lib.hid hs
    have HA := Lib.hid ha
    clear hnum hs ha hM hS hZ hzs hz hr hq hne hm
    go_enter Try.func27, Try.ntmps27
    go_wp2_with (first
      | (go_at_call 41; refine (HN.out _).mono ?_; rintro e w1 ⟨⟨z, rfl⟩, hb1⟩; have hx1 : Blk w1 w.heap.size 28 M := ((Blk.new w 28 M).alloc _).below hb1 (by simp; omega); have hR1 : Blk w1 (w.heap.size + 1) 28 Z := (Blk.newAt _ _ (by simp) (by rw [← HZ.out]; kernel_rfl)).below hb1 (by simp); have hw1 : Below w.heap.size w w1 := (((Below.refl _ w).alloc (Nat.le_refl _) _).alloc (by simp) _).trans (hb1.mono (by simp; omega)); have HW1 := Lib.hid hw1; clear hb1 hw1)
      | (guard_target = wpList _ _ _ _ _ _; refine wpList_load_row rfl 28 _ rfl w.heap.size rfl 28 M (0, 0) _ hx1 Try.underlying28 rfl (by rw [HSZ.out]; kernel_rfl) ?_)
      | (guard_target = wpList _ _ _ _ _ _; refine wpList_store_arrW rfl 28 _ _ rfl (w.heap.size + 1) M rfl rfl 28 _ hR1 (by rw [HSZ.out]; kernel_rfl) (by rw [HSZ.out, HZS.out]) HA.out ?_; intro W9 hS9 hz9 hb9 ho9))
    refine bodyPost_ret (results_cell_tmp (p := 6) (q := 7) rfl _ _ (w.heap.size + 1) 28 _ _ rfl hS9 Try.underlying28 rfl (by rw [HSZ.out]; kernel_rfl)) rfl ?_
    exact ⟨fun _ => ⟨_, rfl, HSZ.out, HA.out⟩, fun n h => (by cases h), HW1.out.trans (hb9.mono (by omega))⟩
  | some n =>
    rw [hq] at hnum
    have hm1 := ref_set2 r d i l (n : Int)
    have ha1 : (msgA { r with height := (n : Int) } d i l).all (·.oneCell') = true := msg_all (r := { r with height := (n : Int) }) ⟨hr.data, hr.ids, hr.list⟩
    have hs1 : (msgA { r with height := (n : Int) } d i l).size = 41 := arr_size _ _
    have hcv : (msgA r d i l)[2]? = some (.int .i64 r.height) := by rw [msgA, arr_get]; rfl
    obtain ⟨M, hM⟩ : ∃ M, msgA r d i l = M := ⟨_, rfl⟩
    obtain ⟨M1, hM1⟩ : ∃ M1, msgA { r with height := (n : Int) } d i l = M1 := ⟨_, rfl⟩
    rw [hM, hM1] at hm1
    rw [hM] at hs hcv ⊢
    rw [hM1] at hs1 ha1
    rw [hS] at hem hnum ⊢
    have HN := Lib.hid hnum
    have HSZ := Lib.hid hs
    have HS1 := Lib.hid hs1
    have HA1 := Lib.hid ha1
    have HM1 := Lib.hid hm1
    have HCV := Lib.hid hcv
    have HQ := Lib.hid (And.intro hq hM1)
    clear hnum hs ha hM hS hZ hzs hz hr hne hm hs1 ha1 hm1 hM1 hcv hq
    go_enter Try.func27, Try.ntmps27
    go_wp2_with (first
      | (go_at_call 41; refine (HN.out _).mono ?_; rintro e w1 ⟨rfl, hb1⟩; have hx1 : Blk w1 w.heap.size 28 M := ((Blk.new w 28 M).alloc _).below hb1 (by simp; omega); have hR1 : Blk w1 (w.heap.size + 1) 28 Z := (Blk.newAt _ _ (by simp) (by rw [← HZ.out]; kernel_rfl)).below hb1 (by simp); have hw1 : Below w.heap.size w w1 := (((Below.refl _ w).alloc (Nat.le_refl _) _).alloc (by simp) _).trans (hb1.mono (by simp; omega)); have HW1 := Lib.hid hw1; clear hb1 hw1; have kc : w1.cell? ⟨w.heap.size, 2, none⟩ = some (.int .i64 r.height) := (hx1.cell 2).trans HCV.out; have kf := hx1.frozen 2; have hx2 : Blk (w1.setCell ⟨w.heap.size, 2, none⟩ (.int .i64 (n : Int))) w.heap.size 28 M1 := (hx1.store 2 _).same HM1.out; have hR2 : Blk (w1.setCell ⟨w.heap.size, 2, none⟩ (.int .i64 (n : Int))) (w.heap.size + 1) 28 Z := hR1.far (by show w.heap.size + 1 ≠ w.heap.size; omega) _)
      | (guard_target = wpList _ _ _ _ _ _; refine wpList_load_row rfl 28 _ rfl w.heap.size rfl 28 M1 (0, 0) _ hx2 Try.underlying28 rfl (by rw [HS1.out]; kernel_rfl) ?_)
      | (guard_target = wpList _ _ _ _ _ _; refine wpList_store_arrW rfl 28 _ _ rfl (w.heap.size + 1) M1 rfl rfl 28 _ hR2 (by rw [HS1.out]; kernel_rfl) (by rw [HS1.out, HZS.out]) HA1.out ?_; intro W9 hS9 hz9 hb9 ho9))
    refine bodyPost_ret (results_cell_tmp (p := 6) (q := 7) rfl _ _ (w.heap.size + 1) 28 _ _ rfl hS9 Try.underlying28 rfl (by rw [HS1.out]; kernel_rfl)) rfl ?_
    exact ⟨fun h => (by cases h), fun n2 h => (by cases h; rw [HQ.out.2]; rfl), (HW1.out.setCell (Nat.le_refl _) _).trans (hb9.mono (by omega))⟩
set_option maxRecDepth 100000 in
set_option maxHeartbeats 4000000 in
theorem refPut3 (r : Raw) (d i l : Value) (bs : List UInt8) (hne : bs ≠ []) (hm : bs.length ≤ 140737488351232) (w : World) (hr : RdR w (fun b => b < w.heap.size) r d i l) :
    Calls Try.prog 27 #[.agg (msgA r d i l), .int .i64 3, .string ⟨bs.toArray⟩] w fun e w' => (number bs = none → ∃ M, e = .returned (.tuple #[.agg M, .int .i64 23]) ∧ M.size = 41 ∧ M.all (·.oneCell') = true) ∧ (∀ n, number bs = some n → e = .returned (.tuple #[.agg (msgA { r with round := (n : Int) } d i l), .int .i64 0])) ∧ Below w.heap.size w w' := by
  have hnum := refNumber_any bs hne hm
  have hem := str_some hne
  have hs : (msgA r d i l).size = 41 := arr_size _ _
  have ha : (msgA r d i l).all (·.oneCell') = true := msg_all hr
  obtain ⟨S, hS⟩ : ∃ S : ByteArray, ⟨bs.toArray⟩ = S := ⟨_, rfl⟩
  have hz : (msgA (zeroRaw 0) nilS nilS nilS) = (msgA (zeroRaw 0) nilS nilS nilS) := rfl
  obtain ⟨Z, hZ⟩ : ∃ Z, msgA (zeroRaw 0) nilS nilS nilS = Z := ⟨_, rfl⟩
  have hzs : Z.size = 41 := by rw [← hZ]; exact arr_size _ _
  have HZ := Lib.hid hZ
  have HZS := Lib.hid hzs
  unfold RefNumOut at hnum
  cases hq : number bs with
  | none =>
    rw [hq] at hnum
    obtain ⟨M, hM⟩ : ∃ M, msgA r d i l = M := ⟨_, rfl⟩
    rw [hM] at hs ha ⊢
    rw [hS] at hem hnum ⊢
    have HN := Lib.hid hnum
    have HSZ := Lib.hid hs
    have HA := Lib.hid ha
    clear hnum hs ha hM hS hZ hzs hz hr hq hne hm
    go_enter Try.func27, Try.ntmps27
    go_wp2_with (first
      | (go_at_call 41; refine (HN.out _).mono ?_; rintro e w1 ⟨⟨z, rfl⟩, hb1⟩; have hx1 : Blk w1 w.heap.size 28 M := ((Blk.new w 28 M).alloc _).below hb1 (by simp; omega); have hR1 : Blk w1 (w.heap.size + 1) 28 Z := (Blk.newAt _ _ (by simp) (by rw [← HZ.out]; kernel_rfl)).below hb1 (by simp); have hw1 : Below w.heap.size w w1 := (((Below.refl _ w).alloc (Nat.le_refl _) _).alloc (by simp) _).trans (hb1.mono (by simp; omega)); have HW1 := Lib.hid hw1; clear hb1 hw1)
      | (guard_target = wpList _ _ _ _ _ _; refine wpList_load_row rfl 28 _ rfl w.heap.size rfl 28 M (0, 0) _ hx1 Try.underlying28 rfl (by rw [HSZ.out]; kernel_rfl) ?_)
      | (guard_target = wpList _ _ _ _ _ _; refine wpList_store_arrW rfl 28 _ _ rfl (w.heap.size + 1) M rfl rfl 28 _ hR1 (by rw [HSZ.out]; kernel_rfl) (by rw [HSZ.out, HZS.out]) HA.out ?_; intro W9 hS9 hz9 hb9 ho9))
    refine bodyPost_ret (results_cell_tmp (p := 6) (q := 7) rfl _ _ (w.heap.size + 1) 28 _ _ rfl hS9 Try.underlying28 rfl (by rw [HSZ.out]; kernel_rfl)) rfl ?_
    exact ⟨fun _ => ⟨_, rfl, HSZ.out, HA.out⟩, fun n h => (by cases h), HW1.out.trans (hb9.mono (by omega))⟩
  | some n =>
    rw [hq] at hnum
    have hm1 := ref_set3 r d i l (n : Int)
    have ha1 : (msgA { r with round := (n : Int) } d i l).all (·.oneCell') = true := msg_all (r := { r with round := (n : Int) }) ⟨hr.data, hr.ids, hr.list⟩
    have hs1 : (msgA { r with round := (n : Int) } d i l).size = 41 := arr_size _ _
    have hcv : (msgA r d i l)[3]? = some (.int .i64 r.round) := by rw [msgA, arr_get]; rfl
    obtain ⟨M, hM⟩ : ∃ M, msgA r d i l = M := ⟨_, rfl⟩
    obtain ⟨M1, hM1⟩ : ∃ M1, msgA { r with round := (n : Int) } d i l = M1 := ⟨_, rfl⟩
    rw [hM, hM1] at hm1
    rw [hM] at hs hcv ⊢
    rw [hM1] at hs1 ha1
    rw [hS] at hem hnum ⊢
    have HN := Lib.hid hnum
    have HSZ := Lib.hid hs
    have HS1 := Lib.hid hs1
    have HA1 := Lib.hid ha1
    have HM1 := Lib.hid hm1
    have HCV := Lib.hid hcv
    have HQ := Lib.hid (And.intro hq hM1)
    clear hnum hs ha hM hS hZ hzs hz hr hne hm hs1 ha1 hm1 hM1 hcv hq
    go_enter Try.func27, Try.ntmps27
    go_wp2_with (first
      | (go_at_call 41; refine (HN.out _).mono ?_; rintro e w1 ⟨rfl, hb1⟩; have hx1 : Blk w1 w.heap.size 28 M := ((Blk.new w 28 M).alloc _).below hb1 (by simp; omega); have hR1 : Blk w1 (w.heap.size + 1) 28 Z := (Blk.newAt _ _ (by simp) (by rw [← HZ.out]; kernel_rfl)).below hb1 (by simp); have hw1 : Below w.heap.size w w1 := (((Below.refl _ w).alloc (Nat.le_refl _) _).alloc (by simp) _).trans (hb1.mono (by simp; omega)); have HW1 := Lib.hid hw1; clear hb1 hw1; have kc : w1.cell? ⟨w.heap.size, 3, none⟩ = some (.int .i64 r.round) := (hx1.cell 3).trans HCV.out; have kf := hx1.frozen 3; have hx2 : Blk (w1.setCell ⟨w.heap.size, 3, none⟩ (.int .i64 (n : Int))) w.heap.size 28 M1 := (hx1.store 3 _).same HM1.out; have hR2 : Blk (w1.setCell ⟨w.heap.size, 3, none⟩ (.int .i64 (n : Int))) (w.heap.size + 1) 28 Z := hR1.far (by show w.heap.size + 1 ≠ w.heap.size; omega) _)
      | (guard_target = wpList _ _ _ _ _ _; refine wpList_load_row rfl 28 _ rfl w.heap.size rfl 28 M1 (0, 0) _ hx2 Try.underlying28 rfl (by rw [HS1.out]; kernel_rfl) ?_)
      | (guard_target = wpList _ _ _ _ _ _; refine wpList_store_arrW rfl 28 _ _ rfl (w.heap.size + 1) M1 rfl rfl 28 _ hR2 (by rw [HS1.out]; kernel_rfl) (by rw [HS1.out, HZS.out]) HA1.out ?_; intro W9 hS9 hz9 hb9 ho9))
    refine bodyPost_ret (results_cell_tmp (p := 6) (q := 7) rfl _ _ (w.heap.size + 1) 28 _ _ rfl hS9 Try.underlying28 rfl (by rw [HS1.out]; kernel_rfl)) rfl ?_
    exact ⟨fun h => (by cases h), fun n2 h => (by cases h; rw [HQ.out.2]; rfl), (HW1.out.setCell (Nat.le_refl _) _).trans (hb9.mono (by omega))⟩
set_option maxRecDepth 100000 in
set_option maxHeartbeats 4000000 in
theorem refPut4 (r : Raw) (d i l : Value) (bs : List UInt8) (hne : bs ≠ []) (hm : bs.length ≤ 140737488351232) (w : World) (hr : RdR w (fun b => b < w.heap.size) r d i l) :
    Calls Try.prog 27 #[.agg (msgA r d i l), .int .i64 4, .string ⟨bs.toArray⟩] w fun e w' => (number bs = none → ∃ M, e = .returned (.tuple #[.agg M, .int .i64 23]) ∧ M.size = 41 ∧ M.all (·.oneCell') = true) ∧ (∀ n, number bs = some n → e = .returned (.tuple #[.agg (msgA { r with valid := (n : Int) } d i l), .int .i64 0])) ∧ Below w.heap.size w w' := by
  have hnum := refNumber_any bs hne hm
  have hem := str_some hne
  have hs : (msgA r d i l).size = 41 := arr_size _ _
  have ha : (msgA r d i l).all (·.oneCell') = true := msg_all hr
  obtain ⟨S, hS⟩ : ∃ S : ByteArray, ⟨bs.toArray⟩ = S := ⟨_, rfl⟩
  have hz : (msgA (zeroRaw 0) nilS nilS nilS) = (msgA (zeroRaw 0) nilS nilS nilS) := rfl
  obtain ⟨Z, hZ⟩ : ∃ Z, msgA (zeroRaw 0) nilS nilS nilS = Z := ⟨_, rfl⟩
  have hzs : Z.size = 41 := by rw [← hZ]; exact arr_size _ _
  have HZ := Lib.hid hZ
  have HZS := Lib.hid hzs
  unfold RefNumOut at hnum
  cases hq : number bs with
  | none =>
    rw [hq] at hnum
    obtain ⟨M, hM⟩ : ∃ M, msgA r d i l = M := ⟨_, rfl⟩
    rw [hM] at hs ha ⊢
    rw [hS] at hem hnum ⊢
    have HN := Lib.hid hnum
    have HSZ := Lib.hid hs
    have HA := Lib.hid ha
    clear hnum hs ha hM hS hZ hzs hz hr hq hne hm
    go_enter Try.func27, Try.ntmps27
    go_wp2_with (first
      | (go_at_call 41; refine (HN.out _).mono ?_; rintro e w1 ⟨⟨z, rfl⟩, hb1⟩; have hx1 : Blk w1 w.heap.size 28 M := ((Blk.new w 28 M).alloc _).below hb1 (by simp; omega); have hR1 : Blk w1 (w.heap.size + 1) 28 Z := (Blk.newAt _ _ (by simp) (by rw [← HZ.out]; kernel_rfl)).below hb1 (by simp); have hw1 : Below w.heap.size w w1 := (((Below.refl _ w).alloc (Nat.le_refl _) _).alloc (by simp) _).trans (hb1.mono (by simp; omega)); have HW1 := Lib.hid hw1; clear hb1 hw1)
      | (guard_target = wpList _ _ _ _ _ _; refine wpList_load_row rfl 28 _ rfl w.heap.size rfl 28 M (0, 0) _ hx1 Try.underlying28 rfl (by rw [HSZ.out]; kernel_rfl) ?_)
      | (guard_target = wpList _ _ _ _ _ _; refine wpList_store_arrW rfl 28 _ _ rfl (w.heap.size + 1) M rfl rfl 28 _ hR1 (by rw [HSZ.out]; kernel_rfl) (by rw [HSZ.out, HZS.out]) HA.out ?_; intro W9 hS9 hz9 hb9 ho9))
    refine bodyPost_ret (results_cell_tmp (p := 6) (q := 7) rfl _ _ (w.heap.size + 1) 28 _ _ rfl hS9 Try.underlying28 rfl (by rw [HSZ.out]; kernel_rfl)) rfl ?_
    exact ⟨fun _ => ⟨_, rfl, HSZ.out, HA.out⟩, fun n h => (by cases h), HW1.out.trans (hb9.mono (by omega))⟩
  | some n =>
    rw [hq] at hnum
    have hm1 := ref_set4 r d i l (n : Int)
    have ha1 : (msgA { r with valid := (n : Int) } d i l).all (·.oneCell') = true := msg_all (r := { r with valid := (n : Int) }) ⟨hr.data, hr.ids, hr.list⟩
    have hs1 : (msgA { r with valid := (n : Int) } d i l).size = 41 := arr_size _ _
    have hcv : (msgA r d i l)[4]? = some (.int .i64 r.valid) := by rw [msgA, arr_get]; rfl
    obtain ⟨M, hM⟩ : ∃ M, msgA r d i l = M := ⟨_, rfl⟩
    obtain ⟨M1, hM1⟩ : ∃ M1, msgA { r with valid := (n : Int) } d i l = M1 := ⟨_, rfl⟩
    rw [hM, hM1] at hm1
    rw [hM] at hs hcv ⊢
    rw [hM1] at hs1 ha1
    rw [hS] at hem hnum ⊢
    have HN := Lib.hid hnum
    have HSZ := Lib.hid hs
    have HS1 := Lib.hid hs1
    have HA1 := Lib.hid ha1
    have HM1 := Lib.hid hm1
    have HCV := Lib.hid hcv
    have HQ := Lib.hid (And.intro hq hM1)
    clear hnum hs ha hM hS hZ hzs hz hr hne hm hs1 ha1 hm1 hM1 hcv hq
    go_enter Try.func27, Try.ntmps27
    go_wp2_with (first
      | (go_at_call 41; refine (HN.out _).mono ?_; rintro e w1 ⟨rfl, hb1⟩; have hx1 : Blk w1 w.heap.size 28 M := ((Blk.new w 28 M).alloc _).below hb1 (by simp; omega); have hR1 : Blk w1 (w.heap.size + 1) 28 Z := (Blk.newAt _ _ (by simp) (by rw [← HZ.out]; kernel_rfl)).below hb1 (by simp); have hw1 : Below w.heap.size w w1 := (((Below.refl _ w).alloc (Nat.le_refl _) _).alloc (by simp) _).trans (hb1.mono (by simp; omega)); have HW1 := Lib.hid hw1; clear hb1 hw1; have kc : w1.cell? ⟨w.heap.size, 4, none⟩ = some (.int .i64 r.valid) := (hx1.cell 4).trans HCV.out; have kf := hx1.frozen 4; have hx2 : Blk (w1.setCell ⟨w.heap.size, 4, none⟩ (.int .i64 (n : Int))) w.heap.size 28 M1 := (hx1.store 4 _).same HM1.out; have hR2 : Blk (w1.setCell ⟨w.heap.size, 4, none⟩ (.int .i64 (n : Int))) (w.heap.size + 1) 28 Z := hR1.far (by show w.heap.size + 1 ≠ w.heap.size; omega) _)
      | (guard_target = wpList _ _ _ _ _ _; refine wpList_load_row rfl 28 _ rfl w.heap.size rfl 28 M1 (0, 0) _ hx2 Try.underlying28 rfl (by rw [HS1.out]; kernel_rfl) ?_)
      | (guard_target = wpList _ _ _ _ _ _; refine wpList_store_arrW rfl 28 _ _ rfl (w.heap.size + 1) M1 rfl rfl 28 _ hR2 (by rw [HS1.out]; kernel_rfl) (by rw [HS1.out, HZS.out]) HA1.out ?_; intro W9 hS9 hz9 hb9 ho9))
    refine bodyPost_ret (results_cell_tmp (p := 6) (q := 7) rfl _ _ (w.heap.size + 1) 28 _ _ rfl hS9 Try.underlying28 rfl (by rw [HS1.out]; kernel_rfl)) rfl ?_
    exact ⟨fun h => (by cases h), fun n2 h => (by cases h; rw [HQ.out.2]; rfl), (HW1.out.setCell (Nat.le_refl _) _).trans (hb9.mono (by omega))⟩
set_option maxRecDepth 100000 in
set_option maxHeartbeats 4000000 in
theorem refPut5 (r : Raw) (d i l : Value) (bs : List UInt8) (hne : bs ≠ []) (hm : bs.length ≤ 140737488351232) (w : World) (hr : RdR w (fun b => b < w.heap.size) r d i l) :
    Calls Try.prog 27 #[.agg (msgA r d i l), .int .i64 5, .string ⟨bs.toArray⟩] w fun e w' => (number bs = none → ∃ M, e = .returned (.tuple #[.agg M, .int .i64 23]) ∧ M.size = 41 ∧ M.all (·.oneCell') = true) ∧ (∀ n, number bs = some n → e = .returned (.tuple #[.agg (msgA { r with num := (n : Int) } d i l), .int .i64 0])) ∧ Below w.heap.size w w' := by
  have hnum := refNumber_any bs hne hm
  have hem := str_some hne
  have hs : (msgA r d i l).size = 41 := arr_size _ _
  have ha : (msgA r d i l).all (·.oneCell') = true := msg_all hr
  obtain ⟨S, hS⟩ : ∃ S : ByteArray, ⟨bs.toArray⟩ = S := ⟨_, rfl⟩
  have hz : (msgA (zeroRaw 0) nilS nilS nilS) = (msgA (zeroRaw 0) nilS nilS nilS) := rfl
  obtain ⟨Z, hZ⟩ : ∃ Z, msgA (zeroRaw 0) nilS nilS nilS = Z := ⟨_, rfl⟩
  have hzs : Z.size = 41 := by rw [← hZ]; exact arr_size _ _
  have HZ := Lib.hid hZ
  have HZS := Lib.hid hzs
  unfold RefNumOut at hnum
  cases hq : number bs with
  | none =>
    rw [hq] at hnum
    obtain ⟨M, hM⟩ : ∃ M, msgA r d i l = M := ⟨_, rfl⟩
    rw [hM] at hs ha ⊢
    rw [hS] at hem hnum ⊢
    have HN := Lib.hid hnum
    have HSZ := Lib.hid hs
    have HA := Lib.hid ha
    clear hnum hs ha hM hS hZ hzs hz hr hq hne hm
    go_enter Try.func27, Try.ntmps27
    go_wp2_with (first
      | (go_at_call 41; refine (HN.out _).mono ?_; rintro e w1 ⟨⟨z, rfl⟩, hb1⟩; have hx1 : Blk w1 w.heap.size 28 M := ((Blk.new w 28 M).alloc _).below hb1 (by simp; omega); have hR1 : Blk w1 (w.heap.size + 1) 28 Z := (Blk.newAt _ _ (by simp) (by rw [← HZ.out]; kernel_rfl)).below hb1 (by simp); have hw1 : Below w.heap.size w w1 := (((Below.refl _ w).alloc (Nat.le_refl _) _).alloc (by simp) _).trans (hb1.mono (by simp; omega)); have HW1 := Lib.hid hw1; clear hb1 hw1)
      | (guard_target = wpList _ _ _ _ _ _; refine wpList_load_row rfl 28 _ rfl w.heap.size rfl 28 M (0, 0) _ hx1 Try.underlying28 rfl (by rw [HSZ.out]; kernel_rfl) ?_)
      | (guard_target = wpList _ _ _ _ _ _; refine wpList_store_arrW rfl 28 _ _ rfl (w.heap.size + 1) M rfl rfl 28 _ hR1 (by rw [HSZ.out]; kernel_rfl) (by rw [HSZ.out, HZS.out]) HA.out ?_; intro W9 hS9 hz9 hb9 ho9))
    refine bodyPost_ret (results_cell_tmp (p := 6) (q := 7) rfl _ _ (w.heap.size + 1) 28 _ _ rfl hS9 Try.underlying28 rfl (by rw [HSZ.out]; kernel_rfl)) rfl ?_
    exact ⟨fun _ => ⟨_, rfl, HSZ.out, HA.out⟩, fun n h => (by cases h), HW1.out.trans (hb9.mono (by omega))⟩
  | some n =>
    rw [hq] at hnum
    have hm1 := ref_set5 r d i l (n : Int)
    have ha1 : (msgA { r with num := (n : Int) } d i l).all (·.oneCell') = true := msg_all (r := { r with num := (n : Int) }) ⟨hr.data, hr.ids, hr.list⟩
    have hs1 : (msgA { r with num := (n : Int) } d i l).size = 41 := arr_size _ _
    have hcv : (msgA r d i l)[5]? = some (.int .i64 r.num) := by rw [msgA, arr_get]; rfl
    obtain ⟨M, hM⟩ : ∃ M, msgA r d i l = M := ⟨_, rfl⟩
    obtain ⟨M1, hM1⟩ : ∃ M1, msgA { r with num := (n : Int) } d i l = M1 := ⟨_, rfl⟩
    rw [hM, hM1] at hm1
    rw [hM] at hs hcv ⊢
    rw [hM1] at hs1 ha1
    rw [hS] at hem hnum ⊢
    have HN := Lib.hid hnum
    have HSZ := Lib.hid hs
    have HS1 := Lib.hid hs1
    have HA1 := Lib.hid ha1
    have HM1 := Lib.hid hm1
    have HCV := Lib.hid hcv
    have HQ := Lib.hid (And.intro hq hM1)
    clear hnum hs ha hM hS hZ hzs hz hr hne hm hs1 ha1 hm1 hM1 hcv hq
    go_enter Try.func27, Try.ntmps27
    go_wp2_with (first
      | (go_at_call 41; refine (HN.out _).mono ?_; rintro e w1 ⟨rfl, hb1⟩; have hx1 : Blk w1 w.heap.size 28 M := ((Blk.new w 28 M).alloc _).below hb1 (by simp; omega); have hR1 : Blk w1 (w.heap.size + 1) 28 Z := (Blk.newAt _ _ (by simp) (by rw [← HZ.out]; kernel_rfl)).below hb1 (by simp); have hw1 : Below w.heap.size w w1 := (((Below.refl _ w).alloc (Nat.le_refl _) _).alloc (by simp) _).trans (hb1.mono (by simp; omega)); have HW1 := Lib.hid hw1; clear hb1 hw1; have kc : w1.cell? ⟨w.heap.size, 5, none⟩ = some (.int .i64 r.num) := (hx1.cell 5).trans HCV.out; have kf := hx1.frozen 5; have hx2 : Blk (w1.setCell ⟨w.heap.size, 5, none⟩ (.int .i64 (n : Int))) w.heap.size 28 M1 := (hx1.store 5 _).same HM1.out; have hR2 : Blk (w1.setCell ⟨w.heap.size, 5, none⟩ (.int .i64 (n : Int))) (w.heap.size + 1) 28 Z := hR1.far (by show w.heap.size + 1 ≠ w.heap.size; omega) _)
      | (guard_target = wpList _ _ _ _ _ _; refine wpList_load_row rfl 28 _ rfl w.heap.size rfl 28 M1 (0, 0) _ hx2 Try.underlying28 rfl (by rw [HS1.out]; kernel_rfl) ?_)
      | (guard_target = wpList _ _ _ _ _ _; refine wpList_store_arrW rfl 28 _ _ rfl (w.heap.size + 1) M1 rfl rfl 28 _ hR2 (by rw [HS1.out]; kernel_rfl) (by rw [HS1.out, HZS.out]) HA1.out ?_; intro W9 hS9 hz9 hb9 ho9))
    refine bodyPost_ret (results_cell_tmp (p := 6) (q := 7) rfl _ _ (w.heap.size + 1) 28 _ _ rfl hS9 Try.underlying28 rfl (by rw [HS1.out]; kernel_rfl)) rfl ?_
    exact ⟨fun h => (by cases h), fun n2 h => (by cases h; rw [HQ.out.2]; rfl), (HW1.out.setCell (Nat.le_refl _) _).trans (hb9.mono (by omega))⟩
end Go.Proofs.Ytjdgcciemlfapaa
namespace Go.Proofs.Ytjdgcciemlfapaa
open Go Go.RowKit PackMath

theorem rd_bytes_of (L : List UInt8) (hL : L.length ≤ 1099511627776) (w : World) : ∃ A c w', (convert 9 24 (.string ⟨L.toArray⟩)).run Try.prog w = .ok (.slice A L.length c) w' ∧ RdB w' (fun b => w.heap.size ≤ b ∧ b < w'.heap.size) (.slice A L.length c) L ∧ Below w.heap.size w w' := by
  have hrun := run_bytes_of_string (P := Try.prog) w 9 24 5 ⟨L.toArray⟩ Try.underlying9 Try.underlying24 Try.underlying5
  have hsz : (⟨L.toArray⟩ : ByteArray).size = L.length := by simp [ByteArray.size]
  rw [hsz] at hrun
  have hge := grownCap_ge w L.length 0 5
  obtain ⟨cap, hcap⟩ : ∃ cap, grownCap w L.length 0 5 = cap := ⟨_, rfl⟩
  rw [hcap] at hrun hge
  obtain ⟨C, hC⟩ : ∃ C, bytesRow ⟨L.toArray⟩ cap = C := ⟨_, rfl⟩
  rw [hC] at hrun
  have hg : (w.drew.alloc (.cells C 5 (C.size, C.size + 1))).heap[w.heap.size]? = some (.cells C 5 (C.size, C.size + 1)) := heap_alloc_new w.drew _
  obtain ⟨w', hw'⟩ : ∃ w', (w.drew.alloc (.cells C 5 (C.size, C.size + 1))) = w' := ⟨_, rfl⟩
  have hszw : w'.heap.size = w.heap.size + 1 := by rw [← hw']; simp
  have hbw : Below w.heap.size w w' := hw' ▸ (Below.refl _ _).drew.alloc (Nat.le_refl _) _
  rw [hw'] at hrun hg
  have hcell : ∀ j, w'.cell? ⟨w.heap.size, j, none⟩ = C[j]? := fun j => by unfold World.cell?; simp only [hg]; simp
  refine ⟨_, cap, w', hrun, rdB_cells (n := L.length) (fun j hj => ?_) rfl hge (by omega) ⟨Nat.le_refl _, by omega⟩, hbw⟩
  rw [hcell, ← hC]
  unfold bytesRow
  rw [Array.getElem?_append_left (by simpa using hj)]
  simp [List.getD_eq_getElem?_getD, List.getElem?_eq_getElem hj, bv]
section
variable {ops : Array Oper} {rest : List Oper} {o : Oper} {a : Act} {w : World} {Q : Exit → Act → World → Prop}
theorem wpList_bytes_of (hgd : o.guard = none) (x : Operand) (ho : o.op = .convert 9 24 x) (S : ByteArray) (hx : a.eval x = .string S) (L : List UInt8) (hS : ⟨L.toArray⟩ = S) (hL : L.length ≤ 1099511627776)
    (h : ∀ A c w', RdB w' (fun b => w.heap.size ≤ b ∧ b < w'.heap.size) (.slice A L.length c) L → Below w.heap.size w w' → wpList Try.prog ops Q rest (a.put o.dst (.slice A L.length c)) w') : wpList Try.prog ops Q (o :: rest) a w := by
  subst hS
  obtain ⟨A, c, w', hrun, hr, hb⟩ := rd_bytes_of L hL w
  refine wpList_plain hgd fun K hK => ?_
  unfold Oper.wp
  simp [execOp, ho, hx, hrun, Result.andThen, Oper.upon]
  exact hK _ _ (h A c w' hr hb)
end
theorem ref_set38 (r : Raw) (d i l v : Value) (bs : List UInt8) : (msgA r d i l).setIfInBounds 38 v = msgA { r with data := bs } v i l := by
  rw [msgA, set_row _ _ _ _ (by omega)]
  refine arr_congr fun j hj => ?_
  match j with
  | 0 => rfl
  | 1 => rfl
  | 2 => rfl
  | 3 => rfl
  | 4 => rfl
  | 5 => rfl
  | m + 6 =>
    show (if m + 6 = 38 then v else if m + 6 < 38 then bv (r.id (m + 6 - 6)) else if m + 6 = 38 then d else if m + 6 = 39 then i else l) = if m + 6 < 38 then bv (r.id (m + 6 - 6)) else if m + 6 = 38 then v else if m + 6 = 39 then i else l
    by_cases h : m + 6 = 38
    · rw [if_pos h, if_neg (by omega), if_pos h]
    · rw [if_neg h]
      by_cases h2 : m + 6 < 38
      · rw [if_pos h2, if_pos h2]
      · rw [if_neg h2, if_neg h2, if_neg h, if_neg h]
set_option maxRecDepth 100000 in
set_option maxHeartbeats 4000000 in
theorem refPut7 (r : Raw) (d i l : Value) (bs : List UInt8) (hne : bs ≠ []) (hm : bs.length ≤ 1099511627776) (w : World) (hr : RdR w (fun b => b < w.heap.size) r d i l) :
    Calls Try.prog 27 #[.agg (msgA r d i l), .int .i64 7, .string ⟨bs.toArray⟩] w fun e w' => (∃ d', e = .returned (.tuple #[.agg (msgA { r with data := bs } d' i l), .int .i64 0]) ∧ RdB w' (fresh w w') d' bs ∧ (msgA { r with data := bs } d' i l).all (·.oneCell') = true) ∧ Below w.heap.size w w' := by
  have hem := str_some hne
  have hs : (msgA r d i l).size = 41 := arr_size _ _
  have hset := fun v => ref_set38 r d i l v bs
  have hcv : (msgA r d i l)[38]? = some d := by rw [msgA, arr_get]; rfl
  obtain ⟨S, hS⟩ : ∃ S : ByteArray, ⟨bs.toArray⟩ = S := ⟨_, rfl⟩
  obtain ⟨Z, hZ⟩ : ∃ Z, msgA (zeroRaw 0) nilS nilS nilS = Z := ⟨_, rfl⟩
  have hzs : Z.size = 41 := by rw [← hZ]; exact arr_size _ _
  have HZ := Lib.hid hZ
  have HZS := Lib.hid hzs
  have RD : Hid (∀ W, Below w.heap.size w W → ∀ A c, RdB W (fun b => b < W.heap.size) (.slice A bs.length c) bs → RdR W (fun b => b < W.heap.size) { r with data := bs } (.slice A bs.length c) i l) := Lib.hid fun W hb A c h => by
    have h2 := (hr.below hb).mono fun b hb' => Nat.lt_of_lt_of_le hb' hb.size
    exact ⟨h, h2.ids, h2.list⟩
  have hs1 : ∀ v, (msgA { r with data := bs } v i l).size = 41 := fun v => arr_size _ _
  obtain ⟨M, hM⟩ : ∃ M, msgA r d i l = M := ⟨_, rfl⟩
  obtain ⟨n, hn⟩ : ∃ n, bs.length = n := ⟨_, rfl⟩
  rw [hM] at hs hset hcv ⊢
  rw [hS] at hem ⊢
  rw [hn] at RD hm
  have HSZ := Lib.hid hs
  have HSET := Lib.hid hset
  have HS1 := Lib.hid hs1
  have HCV := Lib.hid hcv
  have HS := Lib.hid (And.intro hS (And.intro hn hm))
  clear hs hset hs1 hcv hS hn hM hZ hzs hr hne hm
  go_enter Try.func27, Try.ntmps27
  go_wp2_with (first
    | (guard_target = wpList _ _ _ (Oper.mk _ (.convert _ _ _) _ _ _ _ :: _) _ _; refine wpList_bytes_of rfl _ rfl S rfl bs HS.out.1 (by have := HS.out; omega) ?_; rw [HS.out.2.1]; intro A c w1 hrd hb1; have hx1 : Blk w1 w.heap.size 28 M := ((Blk.new w 28 M).alloc _).below hb1 (by simp; omega); have hR1 : Blk w1 (w.heap.size + 1) 28 Z := (Blk.newAt _ _ (by simp) (by rw [← HZ.out]; kernel_rfl)).below hb1 (by simp); have hw1 : Below w.heap.size w w1 := (((Below.refl _ w).alloc (Nat.le_refl _) _).alloc (by simp) _).trans (hb1.mono (by simp; omega)); have hq := RD.out w1 hw1 A c (hrd.mono fun b hb => hb.2); have ha1 := msg_all hq; have hs1 := HS1.out (.slice A n c); have hx2 : Blk (w1.setCell ⟨w.heap.size, 38, none⟩ (.slice A n c)) w.heap.size 28 (msgA { r with data := bs } (.slice A n c) i l) := (hx1.store 38 _).same (HSET.out _); have hR2 : Blk (w1.setCell ⟨w.heap.size, 38, none⟩ (.slice A n c)) (w.heap.size + 1) 28 Z := hR1.far (by show w.heap.size + 1 ≠ w.heap.size; omega) _; have kc : w1.cell? ⟨w.heap.size, 38, none⟩ = some d := (hx1.cell 38).trans HCV.out; have kf := hx1.frozen 38; have hw2 : Below w.heap.size w (w1.setCell ⟨w.heap.size, 38, none⟩ (.slice A n c)) := hw1.setCell (Nat.le_refl _) _; have HW2 := Lib.hid hw2; have HRD1 := Lib.hid (And.intro hrd hb1.size); have HM1 : Hid (∃ X, msgA { r with data := bs } (.slice A n c) i l = X) := Lib.hid ⟨_, rfl⟩; obtain ⟨M1, hM1⟩ := HM1.out; rw [hM1] at ha1 hs1 hx2; have HM2 := Lib.hid hM1; have HA1 := Lib.hid ha1; have HSZ1 := Lib.hid hs1; clear hM1 hq hw1 hw2 hb1 hrd HM1 ha1 hs1)
    | (guard_target = wpList _ _ _ _ _ _; refine wpList_load_row rfl 28 _ rfl w.heap.size rfl 28 M1 (0, 0) _ hx2 Try.underlying28 rfl (by rw [HSZ1.out]; kernel_rfl) ?_)
    | (guard_target = wpList _ _ _ _ _ _; refine wpList_store_arrW rfl 28 _ _ rfl (w.heap.size + 1) M1 rfl rfl 28 _ hR2 (by rw [HSZ1.out]; kernel_rfl) (by rw [HSZ1.out, HZS.out]) HA1.out ?_; intro W9 hS9 hz9 hb9 ho9))
  refine bodyPost_ret (results_cell_tmp (p := 6) (q := 7) rfl _ _ (w.heap.size + 1) 28 _ _ rfl hS9 Try.underlying28 rfl (by rw [HSZ1.out]; kernel_rfl)) rfl ?_
  have hw9 := HW2.out.trans (hb9.mono (by omega))
  have hrd9 : RdB W9 (fresh w W9) (.slice A n c) bs := (HRD1.out.1.kept (W' := W9) fun a x ha h => (World.cell?_of_block ((ho9 a.block (by have := ha.1; simp at this; omega)).trans (Below.heap_setCell w1 ⟨w.heap.size, 38, none⟩ _ _ (by have := ha.1; simp at this; show a.block ≠ w.heap.size; omega)))).trans h).mono fun b hb => ⟨by have := hb.1; simp at this; omega, by have := hb.2; rw [hz9]; simpa [World.setCell] using this⟩
  exact ⟨⟨.slice A n c, by rw [HM2.out]; rfl, hrd9, by rw [HM2.out]; exact HA1.out⟩, hw9⟩
end Go.Proofs.Ytjdgcciemlfapaa
namespace Go.Proofs.Ytjdgcciemlfapaa
open Go Go.RowKit PackMath

section
variable {P : Program} {ops : Array Oper} {rest : List Oper} {o : Oper} {a : Act} {w : World} {Q : Exit → Act → World → Prop}
theorem wpList_buildG (hw : Region.wanted o (yielded ops a.tmps) = true) (t : TypeId) (parts : Array (Nat × Operand)) (ho : o.op = .build t parts)
    (hf : (P.built t (parts.map fun (i, x) => (i, a.eval x)).toList).isSome = true)
    (h : wpList P ops Q rest (a.put o.dst (.agg ((P.built t (parts.map fun (i, x) => (i, a.eval x)).toList).getD #[]))) w) : wpList P ops Q (o :: rest) a w :=
  wpList_step fun K hK => by
    rw [if_pos hw]
    exact wp_build t parts ho hf (hK _ _ h)
/-- An array stored into a part of a row. -/
theorem wpList_store_part (hgd : o.guard = none) (ty : TypeId) (x y : Operand) (ho : o.op = .store ty x y)
    (g off m N : Nat) (f c : Nat → Value) (hx : a.eval x = .pointer (some ⟨g, off, none⟩)) (hy : a.eval y = .agg (arr m c))
    (t : TypeId) (hg : Blk w g t (arr N f)) (hi : (P.info? ty).map (·.size) = some m) (hfit : off + m ≤ N) (h1 : ∀ j, j < m → (c j).oneCell' = true)
    (h : ∀ w', w' = w.setRow g (arr N fun i => if off ≤ i ∧ i < off + m then c (i - off) else f i) → wpList P ops Q rest (a.put o.dst undef) w') : wpList P ops Q (o :: rest) a w := by
  refine wpList_plain hgd fun K hK => ?_
  unfold Oper.wp
  have hl : (arr m c).toList = (List.range m).map c := by rw [arr_list]
  have hst := run_storeCells_at (P := P) g off t ((List.range m).map c) 0 (arr N f) w hg (by rw [List.length_map, List.length_range, arr_size]; omega) (fun v hv => by
    simp only [List.mem_map, List.mem_range] at hv
    obtain ⟨j, hj, rfl⟩ := hv
    exact h1 j hj)
  rw [List.append_assoc, Nat.add_zero, List.length_map, List.length_range, splice_arr N off m f c hfit] at hst
  cases hq : P.info? ty with
  | none => simp [hq] at hi
  | some i =>
    have hs : m = i.size := by simp [hq] at hi; omega
    have hsz : (arr m c).size = i.size := by rw [arr_size, hs]
    have := hK _ _ (h _ rfl)
    simp [execOp, ho, hx, hy, Instr.storeAt, Instr.sureAddr, Sem.run_bind, storeVar, sizeOf, typeInfo, hq, Value.cells, hsz, hl, hst, Result.andThen, Oper.upon]
    exact this
end
theorem ref_set6 (r : Raw) (d i l : Value) (G : Nat → UInt8) : (arr 41 fun j => if 6 ≤ j ∧ j < 6 + 32 then (fun k => bv (G k)) (j - 6) else msgF r d i l j) = msgA { r with id := G } d i l := by
  refine arr_congr fun j hj => ?_
  match j with
  | 0 => rfl
  | 1 => rfl
  | 2 => rfl
  | 3 => rfl
  | 4 => rfl
  | 5 => rfl
  | m + 6 =>
    show (if 6 ≤ m + 6 ∧ m + 6 < 6 + 32 then bv (G (m + 6 - 6)) else if m + 6 < 38 then bv (r.id (m + 6 - 6)) else if m + 6 = 38 then d else if m + 6 = 39 then i else l) = if m + 6 < 38 then bv (G (m + 6 - 6)) else if m + 6 = 38 then d else if m + 6 = 39 then i else l
    by_cases h2 : m + 6 < 38
    · rw [if_pos (by omega), if_pos h2]
    · rw [if_neg (by omega), if_neg h2, if_neg h2]
set_option maxRecDepth 100000 in
set_option maxHeartbeats 8000000 in
theorem refPut6 (r : Raw) (d i l : Value) (bs : List UInt8) (hne : bs ≠ []) (hm : bs.length ≤ 1099511627776) (w : World) (hr : RdR w (fun b => b < w.heap.size) r d i l) :
    Calls Try.prog 27 #[.agg (msgA r d i l), .int .i64 6, .string ⟨bs.toArray⟩] w fun e w' => ((bs.length ≠ 32 ∨ bs = zid) → ∃ M, e = .returned (.tuple #[.agg M, .int .i64 23]) ∧ M.size = 41 ∧ M.all (·.oneCell') = true) ∧ (¬ (bs.length ≠ 32 ∨ bs = zid) → e = .returned (.tuple #[.agg (msgA { r with id := fun j => bs.getD j 0 } d i l), .int .i64 0])) ∧ Below w.heap.size w w' := by
  have hem := str_some hne
  have hsz := ba_len bs
  have hz := built_zero
  have hid := fun h32 w => refId_any bs 0 h32 (by omega) w
  have hset := ref_set6 r d i l
  have hfall : (arr 41 (msgF r d i l)).all (·.oneCell') = true := msg_all hr
  have hgall : ∀ G, (msgA { r with id := G } d i l).all (·.oneCell') = true := fun G => msg_all (r := { r with id := G }) ⟨hr.data, hr.ids, hr.list⟩
  have hgs : ∀ G, (msgA { r with id := G } d i l).size = 41 := fun G => arr_size _ _
  obtain ⟨S, hS⟩ : ∃ S : ByteArray, ⟨bs.toArray⟩ = S := ⟨_, rfl⟩
  obtain ⟨Z, hZ⟩ : ∃ Z, msgA (zeroRaw 0) nilS nilS nilS = Z := ⟨_, rfl⟩
  have hzs : Z.size = 41 := by rw [← hZ]; exact arr_size _ _
  have HZ := Lib.hid hZ
  have HZS := Lib.hid hzs
  obtain ⟨f, hf⟩ : ∃ f, msgF r d i l = f := ⟨_, rfl⟩
  rw [show msgA r d i l = arr 41 (msgF r d i l) from rfl]
  rw [hf] at hset hfall ⊢
  rw [hS] at hem hsz hid ⊢
  have HFA := Lib.hid hfall
  have HSET := Lib.hid hset
  have HGA := Lib.hid (And.intro hgall hgs)
  clear hset hfall hgall hgs hS hZ hzs hr hne hf hm
  by_cases h32 : bs.length = 32
  · have hid2 := hid (by omega)
    rw [h32] at hsz
    have HX1 := Lib.hid hid2
    have HX2 := Lib.hid hid2
    have hGz := eql_id (fun j => bs.getD (0 + j) 0) (fun _ => 0)
    rw [id32_zero, show id32 (fun j => bs.getD (0 + j) 0) = bs from by simpa using id32_of bs h32] at hGz
    obtain ⟨G, hG⟩ : ∃ G : Nat → UInt8, (fun j => bs.getD (0 + j) 0) = G := ⟨_, rfl⟩
    have hGi : ∀ j, bs.getD (0 + j) 0 = G j := fun j => by rw [← hG]
    have hGa : (arr 32 fun j => bv (bs.getD (0 + j) 0)) = arr 32 fun j => bv (G j) := arr_congr fun j _ => by rw [hGi]
    rw [hGa] at HX1 HX2
    rw [hGa] at hGz
    have hG0 : (fun j => bs.getD j 0) = G := by rw [← hG]; funext j; rw [Nat.zero_add]
    by_cases hzid : bs = zid
    · rw [show (bs == zid) = true from by simpa using hzid] at hGz
      have HEQ := Lib.hid hGz
      have HN : Hid (bs.length ≠ 32 ∨ bs = zid) := Lib.hid (.inr hzid)
      clear hid hid2 hGz hG hGi hGa hG0 hzid h32
      go_enter Try.func27, Try.ntmps27
      go_wp2_with (first
        | (go_at_call 42; refine (HX1.out _).mono ?_; rintro e w1 ⟨rfl, hb1⟩; have hx1 : Blk w1 w.heap.size 28 (arr 41 f) := ((Blk.new w 28 (arr 41 f)).alloc _).below hb1 (by simp; omega); have hR1 : Blk w1 (w.heap.size + 1) 28 Z := (Blk.newAt _ _ (by simp) (by rw [← HZ.out]; kernel_rfl)).below hb1 (by simp); have hw1 : Below w.heap.size w w1 := (((Below.refl _ w).alloc (Nat.le_refl _) _).alloc (by simp) _).trans (hb1.mono (by simp; omega)); have HW1 := Lib.hid hw1; clear hb1 hw1 HX1)
        | (guard_target = wpList _ _ _ (Oper.mk _ (.build _ _) _ _ _ _ :: _) _ _; refine wpList_buildG (by rfl) 23 #[] rfl (by kernel_rfl) ?_; simp only [List.map_toArray, List.map_nil]; rw [hz])
        | (guard_target = wpList _ _ _ (Oper.mk _ (.binOp .eql 23 _ _ _) _ _ _ _ :: _) _ _; refine wpList_binG (by rfl) .eql 23 _ _ _ rfl (.agg (arr 32 fun j => bv (G j))) (.agg (arr 32 fun _ => bv 0)) rfl rfl (.bool true) (run_eqGuard_agg _ _ _ _ _ _ _ (by kernel_rfl)) (HEQ.out _) ?_; clear HEQ)
        | (guard_target = wpList _ _ _ (Oper.mk _ (.load 28 _) _ _ _ _ :: _) _ _; refine wpList_load_row rfl 28 _ rfl w.heap.size rfl 28 (arr 41 f) (0, 0) _ (hx1) Try.underlying28 rfl (by rw [arr_size]; kernel_rfl) ?_)
        | (guard_target = wpList _ _ _ (Oper.mk _ (.store 28 _ _) _ _ _ _ :: _) _ _; refine wpList_store_arrW rfl 28 _ _ rfl (w.heap.size + 1) (arr 41 f) rfl rfl 28 _ (hR1) (by rw [arr_size]; kernel_rfl) (by rw [arr_size, HZS.out]) (HFA.out) ?_; intro W9 hS9 hz9 hb9 ho9))
      refine bodyPost_ret (results_cell_tmp (p := 6) (q := 7) rfl _ _ (w.heap.size + 1) 28 _ _ rfl hS9 Try.underlying28 rfl (by rw [arr_size]; kernel_rfl)) rfl ?_
      exact ⟨fun _ => ⟨_, rfl, arr_size _ _, HFA.out⟩, fun h => absurd HN.out h, HW1.out.trans (hb9.mono (by omega))⟩
    · rw [show (bs == zid) = false from by simpa using hzid] at hGz
      have HEQ := Lib.hid hGz
      have HN : Hid (¬ (bs.length ≠ 32 ∨ bs = zid)) := Lib.hid fun h => h.elim (fun h => h h32) hzid
      have HG0 := Lib.hid hG0
      have hset2 := HSET.out G
      have hga := HGA.out.1 G
      have hgs := HGA.out.2 G
      obtain ⟨M1, hM1⟩ : ∃ M1, msgA { r with id := G } d i l = M1 := ⟨_, rfl⟩
      rw [hM1] at hset2 hga hgs
      have HSET2 := Lib.hid hset2
      have HGA2 := Lib.hid hga
      have HGS2 := Lib.hid hgs
      have HM1 := Lib.hid hM1
      clear hid hid2 hGz hG hGi hGa hG0 hzid h32 hset2 hga hgs hM1
      go_enter Try.func27, Try.ntmps27
      go_wp2_with (first
        | (go_at_call 42; refine (HX1.out _).mono ?_; rintro e w1 ⟨rfl, hb1⟩; have hx1 : Blk w1 w.heap.size 28 (arr 41 f) := ((Blk.new w 28 (arr 41 f)).alloc _).below hb1 (by simp; omega); have hR1 : Blk w1 (w.heap.size + 1) 28 Z := (Blk.newAt _ _ (by simp) (by rw [← HZ.out]; kernel_rfl)).below hb1 (by simp); have hw1 : Below w.heap.size w w1 := (((Below.refl _ w).alloc (Nat.le_refl _) _).alloc (by simp) _).trans (hb1.mono (by simp; omega)); have HW1 := Lib.hid hw1; clear hb1 hw1 HX1)
        | (guard_target = wpList _ _ _ (Oper.mk _ (.build _ _) _ _ _ _ :: _) _ _; refine wpList_buildG (by rfl) 23 #[] rfl (by kernel_rfl) ?_; simp only [List.map_toArray, List.map_nil]; rw [hz])
        | (guard_target = wpList _ _ _ (Oper.mk _ (.binOp .eql 23 _ _ _) _ _ _ _ :: _) _ _; refine wpList_binG (by rfl) .eql 23 _ _ _ rfl (.agg (arr 32 fun j => bv (G j))) (.agg (arr 32 fun _ => bv 0)) rfl rfl (.bool false) (run_eqGuard_agg _ _ _ _ _ _ _ (by kernel_rfl)) (HEQ.out _) ?_; clear HEQ)
        | (go_at_call 42; refine (HX2.out _).mono ?_; rintro e w2 ⟨rfl, hb2⟩; have hx2 := hx1.below hb2 hx1.lt; have hR2 := hR1.below hb2 hR1.lt; have HW2 := Lib.hid (HW1.out.trans (hb2.mono HW1.out.size)); clear hb2 hx1 hR1 HX2)
        | (guard_target = wpList _ _ _ (Oper.mk _ (.store 23 _ _) _ _ _ _ :: _) _ _; refine wpList_store_part rfl 23 _ _ rfl w.heap.size 6 32 41 f (fun k => bv (G k)) rfl rfl 28 hx2 (by kernel_rfl) (by omega) (fun _ _ => rfl) ?_; intro w3 hw3; rw [HSET2.out] at hw3; have hx3 : Blk w3 w.heap.size 28 M1 := hw3 ▸ hx2.setRow _; have hR3 : Blk w3 (w.heap.size + 1) 28 Z := hw3 ▸ hR2.setRow_far (by omega) _; have HW3 : Hid (Below w.heap.size w w3) := Lib.hid (hw3 ▸ below_setRow HW2.out (Nat.le_refl _) _); clear hx2 hR2 hw3)
        | (guard_target = wpList _ _ _ (Oper.mk _ (.load 28 _) _ _ _ _ :: _) _ _; refine wpList_load_row rfl 28 _ rfl w.heap.size rfl 28 (M1) (0, 0) _ (hx3) Try.underlying28 rfl (by rw [HGS2.out]; kernel_rfl) ?_)
        | (guard_target = wpList _ _ _ (Oper.mk _ (.store 28 _ _) _ _ _ _ :: _) _ _; refine wpList_store_arrW rfl 28 _ _ rfl (w.heap.size + 1) (M1) rfl rfl 28 _ (hR3) (by rw [HGS2.out]; kernel_rfl) (by rw [HGS2.out, HZS.out]) (HGA2.out) ?_; intro W9 hS9 hz9 hb9 ho9))
      refine bodyPost_ret (results_cell_tmp (p := 6) (q := 7) rfl _ _ (w.heap.size + 1) 28 _ _ rfl hS9 Try.underlying28 rfl (by rw [HGS2.out]; kernel_rfl)) rfl ?_
      exact ⟨fun h => absurd h HN.out, fun _ => by rw [HG0.out, HM1.out]; rfl, HW3.out.trans (hb9.mono (by omega))⟩
  · have HN : Hid (¬ bs.length = 32) := Lib.hid h32
    have hn1 : ¬ ((bs.length : Nat) : Int) = 32 := by omega
    obtain ⟨n, hn⟩ : ∃ n, bs.length = n := ⟨_, rfl⟩
    rw [hn] at hsz hn1
    have hn2 : (((n : Nat) : Int) != 32) = true := by simpa using hn1
    have hR0 : Hid (∀ ob, Blk ((w.alloc (.cells (arr 41 f) 28)).alloc ob) w.heap.size 28 (arr 41 f)) := Lib.hid fun ob => (Blk.new _ _ _).alloc _
    clear hid h32 hn
    go_enter Try.func27, Try.ntmps27
    go_wp2_with (first
      | (guard_target = wpList _ _ _ (Oper.mk _ (.load 28 _) _ _ _ _ :: _) _ _; refine wpList_load_row rfl 28 _ rfl w.heap.size rfl 28 (arr 41 f) (0, 0) _ (hR0.out _) Try.underlying28 rfl (by rw [arr_size]; kernel_rfl) ?_)
      | (guard_target = wpList _ _ _ (Oper.mk _ (.store 28 _ _) _ _ _ _ :: _) _ _; refine wpList_store_arrW rfl 28 _ _ rfl (w.heap.size + 1) (arr 41 f) rfl rfl 28 _ (Blk.newAt _ _ (by simp) rfl) (by rw [arr_size]; kernel_rfl) (by rw [arr_size]; rfl) (HFA.out) ?_; intro W9 hS9 hz9 hb9 ho9))
    refine bodyPost_ret (results_cell_tmp (p := 6) (q := 7) rfl _ _ (w.heap.size + 1) 28 _ _ rfl hS9 Try.underlying28 rfl (by rw [arr_size]; kernel_rfl)) rfl ?_
    exact ⟨fun _ => ⟨_, rfl, arr_size _ _, by have := HFA.out; first | exact this | simpa using this⟩, fun h => by first | exact absurd h HN.out | exact absurd (.inl HN.out) h, (((Below.refl _ w).alloc (Nat.le_refl _) _).alloc (by simp) _).trans (hb9.mono (by omega))⟩
end Go.Proofs.Ytjdgcciemlfapaa
namespace Go.Proofs.Ytjdgcciemlfapaa
open Go Go.RowKit PackMath

theorem app_val' {B : Nat} {w : World} (hB : B ≤ w.heap.size) {v : Value} {n : Nat} {xs : List Value} (hown : w.ownsRow B 24 1 v n xs) (x : Value) (hx : x.oneCell' = true) {g0 : Nat} (hg0 : Blk w g0 24 #[x]) (hn : n ≤ 100000000) :
    ∃ g cap w', (Builtin.append_ #[26, 26] 26 #[v, .slice (some ⟨g0, 0, none⟩) 1 1]).run Try.prog w = .ok (.slice (some ⟨g, 0, none⟩) (n + 1) cap) w' ∧
      w'.ownsRow B 24 1 (.slice (some ⟨g, 0, none⟩) (n + 1) cap) (n + 1) (xs ++ [x]) ∧ w.grownBy w' v.ownBlock ∧ (v.ownBlock = some g ∨ g = w.heap.size) := by
  obtain ⟨i0, hi, hz0, hz1, hz2⟩ := info_parts info_row
  obtain ⟨v', w', hrun, hown', hgr, _, hbl⟩ := run_append_own_at (P := Try.prog) w B 26 26 24 i0 (.slice none 0 0) 1 24 Try.underlying26 hi hz0 hz1 hz2 rfl (by omega) v n xs hown ⟨g0, 0, none⟩ 1 1 [x] rfl
    (fun j u hu => by
      rcases j with _ | j
      · cases hu
        rw [add_zero_block, hg0.cell]; rfl
      · cases hu) (fun u hu => (List.mem_singleton.1 hu) ▸ hx) (by unfold maxLen; omega) (by omega) hB
  rcases ownsRow_forms' hown' with ⟨_, h0⟩ | ⟨g, cap, rfl⟩
  · omega
  · refine ⟨g, cap, w', hrun, hown', hgr, ?_⟩
    rcases hbl with h | h
    · exact .inl h.symm
    · right
      simpa [Value.ownBlock] using h
theorem ref_set40 (r : Raw) (d i l v : Value) : (msgA r d i l).setIfInBounds 40 v = msgA r d i v := by
  rw [msgA, set_row _ _ _ _ (by omega)]
  refine arr_congr fun j hj => ?_
  match j with
  | 0 => rfl
  | 1 => rfl
  | 2 => rfl
  | 3 => rfl
  | 4 => rfl
  | 5 => rfl
  | m + 6 =>
    show (if m + 6 = 40 then v else if m + 6 < 38 then bv (r.id (m + 6 - 6)) else if m + 6 = 38 then d else if m + 6 = 39 then i else l) = if m + 6 < 38 then bv (r.id (m + 6 - 6)) else if m + 6 = 38 then d else if m + 6 = 39 then i else v
    by_cases h : m + 6 = 40
    · rw [if_pos h, if_neg (by omega), if_neg (by omega), if_neg (by omega)]
    · rw [if_neg h]
      by_cases h2 : m + 6 < 38
      · rw [if_pos h2, if_pos h2]
      · rw [if_neg h2, if_neg h2]
        by_cases h3 : m + 6 = 38
        · rw [if_pos h3, if_pos h3]
        · rw [if_neg h3, if_neg h3, if_pos (by omega), if_pos (by omega)]
theorem runs_step {s x t : List UInt8} (h : take3 s = some (x, t)) : runs s = (runs t).map (x :: ·) := by
  have hne : s ≠ [] := by rintro rfl; cases h
  rw [runs, dif_neg hne]
  split
  · rename_i e; rw [h] at e; cases e
  · rename_i b t' e
    rw [h] at e
    injection e with e
    injection e with e1 e2
    rw [e1, e2]
theorem runs_stop {s : List UInt8} (hne : s ≠ []) (h : take3 s = none) : runs s = none := by
  rw [runs, dif_neg hne]
  split
  · rfl
  · rename_i b t' e
    rw [h] at e; cases e
theorem take3_drop {bs x t : List UInt8} {k : Nat} (h : take3 (bs.drop k) = some (x, t)) : t = bs.drop (k + 3 + x.length) ∧ k + 3 + x.length ≤ bs.length := by
  have e := run_take3 h
  have hl := congrArg List.length e
  rw [List.length_drop, List.length_append] at hl
  have hr : (run x).length = 3 + x.length := by rw [run, List.length_append]; rfl
  refine ⟨?_, by omega⟩
  have e2 := congrArg (List.drop (3 + x.length)) e
  rw [List.drop_drop, ← hr, List.drop_left, hr] at e2
  rw [← e2]
  congr 1
  omega
/-- The entries so far. -/
structure ListAt (w0 : World) (r : Raw) (d i : Value) (bs : List UInt8) (Z : Array Value) (k : Nat) (wr : World) (es : List (List UInt8)) (lv : Value) (vs : List Value) : Prop where
  le : k ≤ bs.length
  runs : runs bs = (runs (bs.drop k)).map (es ++ ·)
  at_ : Blk wr w0.heap.size 28 (msgA r d i lv)
  res : Blk wr (w0.heap.size + 1) 28 Z
  own : wr.ownsRow (w0.heap.size + 2) 24 1 lv es.length vs
  len : vs.length = es.length
  rd : ∀ j, j < es.length → RdB wr (fun b => w0.heap.size + 2 ≤ b ∧ b < wr.heap.size ∧ lv.ownBlock ≠ some b) (vs.getD j undef) (es.getD j [])
  size : w0.heap.size + 2 ≤ wr.heap.size
  below : Below w0.heap.size w0 wr
  few : 3 * es.length ≤ k
theorem ownsRow_heap {w w' : World} {B k n : Nat} {e : TypeId} {v : Value} {xs : List Value} (h : w.ownsRow B e k v n xs) (hb : ∀ b, v.ownBlock = some b → w'.heap[b]? = w.heap[b]?) : w'.ownsRow B e k v n xs := by
  refine ⟨h.1, ?_⟩
  rcases h.2 with h0 | ⟨g, cap, cur, h1, h2, h3, h4⟩
  · exact .inl h0
  · exact .inr ⟨g, cap, cur, h1, h2, (hb g (by rw [h1]; rfl)).trans h3, h4⟩
set_option maxRecDepth 100000 in
/-- One entry more. -/
theorem ListAt.step {w0 : World} {r : Raw} {d i : Value} {bs : List UInt8} {Z : Array Value} {k : Nat} {wr : World} {es : List (List UInt8)} {lv : Value} {vs : List Value} (h : ListAt w0 r d i bs Z k wr es lv vs) {x t : List UInt8}
    (ht : take3 (bs.drop k) = some (x, t)) {w1 w2 : World} (hb1 : Below wr.heap.size wr w1) {A : Option Addr} {c : Nat} (hrd : RdB w2 (fun b => w1.heap.size ≤ b ∧ b < w2.heap.size) (.slice A x.length c) x) (hb2 : Below w1.heap.size w1 w2) (hm : bs.length ≤ 100000000) :
    ∃ g cap w4, (Builtin.append_ #[26, 26] 26 #[lv, .slice (some ⟨w2.heap.size, 0, none⟩) 1 1]).run Try.prog (w2.alloc (.cells #[.slice A x.length c] 24)) = .ok (.slice (some ⟨g, 0, none⟩) (es.length + 1) cap) w4 ∧
      Blk w4 w0.heap.size 28 (msgA r d i lv) ∧
      ListAt w0 r d i bs Z (k + 3 + x.length) (w4.setCell ⟨w0.heap.size, 40, none⟩ (.slice (some ⟨g, 0, none⟩) (es.length + 1) cap)) (es ++ [x]) (.slice (some ⟨g, 0, none⟩) (es.length + 1) cap) (vs ++ [.slice A x.length c]) := by
  have h1s := hb1.size
  have h2s := hb2.size
  have hsz := h.size
  have hb12 : Below wr.heap.size wr w2 := hb1.trans (hb2.mono h1s)
  have hb13 : Below wr.heap.size wr (w2.alloc (.cells #[.slice A x.length c] 24)) := hb12.alloc (by omega) _
  have hown3 := ownsRow_kept h.own hb13
  obtain ⟨g, cap, w4, hrun, hown4, hgr, hbl⟩ := app_val' (by simp; omega) hown3 (.slice A x.length c) rfl (Blk.new w2 24 #[.slice A x.length c]) (by have := h.few; have := h.le; omega)
  have hbk : ∀ b, lv.ownBlock = some b → w0.heap.size + 2 ≤ b := fun b hb => (h.own.lt b hb).1
  have hat3 := h.at_.below hb13 h.at_.lt
  have hres3 := h.res.below hb13 h.res.lt
  have hat4 := hat3.grown hgr (fun e => by have := hbk _ e.symm; omega)
  have hres4 := hres3.grown hgr (fun e => by have := hbk _ e.symm; omega)
  have hg2 : w0.heap.size + 2 ≤ g := (hown4.lt g rfl).1
  have h4s := hgr.size
  simp at h4s
  have hset : (w4.setCell ⟨w0.heap.size, 40, none⟩ (.slice (some ⟨g, 0, none⟩) (es.length + 1) cap)).heap.size = w4.heap.size := by simp [World.setCell]
  obtain ⟨q1, q2⟩ := take3_drop ht
  have keep : ∀ {ok : Nat → Prop} {v : Value} {xs : List UInt8}, RdB w4 ok v xs → (∀ b, ok b → w0.heap.size + 2 ≤ b) → RdB (w4.setCell ⟨w0.heap.size, 40, none⟩ (.slice (some ⟨g, 0, none⟩) (es.length + 1) cap)) ok v xs := fun hr hk => hr.kept fun a y ha hy => (World.cell?_of_block (Below.heap_setCell w4 ⟨w0.heap.size, 40, none⟩ _ _ (by have := hk _ ha; show a.block ≠ w0.heap.size; omega))).trans hy
  have ownNew : ∀ b, b < w2.heap.size + 1 → lv.ownBlock ≠ some b → (Value.slice (some ⟨g, 0, none⟩) (es.length + 1) cap).ownBlock ≠ some b := fun b hb hne e => by
    simp only [Value.ownBlock, Option.some.injEq] at e
    rcases hbl with h' | h'
    · exact hne (by rw [h', e])
    · simp at h'; omega
  refine ⟨g, cap, w4, hrun, hat4, ⟨q2, ?_, (hat4.store 40 _).same (ref_set40 _ _ _ _ _), hres4.far (by show w0.heap.size + 1 ≠ w0.heap.size; omega) _, ?_, by simp [h.len], fun j hj => ?_, by rw [hset]; omega, ?_, by have := h.few; simp; omega⟩⟩
  · rw [h.runs, runs_step ht, q1, Option.map_map]
    congr 1
    funext y
    simp
  · have hl : (es ++ [x]).length = es.length + 1 := by simp
    rw [hl]
    exact ownsRow_heap hown4 fun b hb => Below.heap_setCell w4 ⟨w0.heap.size, 40, none⟩ _ _ (by simp only [Value.ownBlock, Option.some.injEq] at hb; show b ≠ w0.heap.size; omega)
  · by_cases hj' : j < es.length
    · rw [show (vs ++ [Value.slice A x.length c]).getD j undef = vs.getD j undef from by simp only [List.getD_eq_getElem?_getD]; rw [List.getElem?_append_left (by rw [h.len]; exact hj')],
        show (es ++ [x]).getD j [] = es.getD j [] from by simp only [List.getD_eq_getElem?_getD]; rw [List.getElem?_append_left hj']]
      have h3 := (h.rd j hj').kept (W' := w2.alloc (.cells #[.slice A x.length c] 24)) fun a y ha hy => (hb13.cell (p := a) ha.2.1).trans hy
      have h4 := h3.kept (W' := w4) fun a y ha hy => hgr.cell hy fun e => ha.2.2 e.symm
      exact (keep h4 fun b hb => hb.1).mono fun b hb => ⟨hb.1, by rw [hset]; have := hb.2.1; omega, ownNew b (by have := hb.2.1; omega) hb.2.2⟩
    · have hj2 : j = es.length := by simp at hj; omega
      subst hj2
      rw [show (vs ++ [Value.slice A x.length c]).getD es.length undef = .slice A x.length c from by simp only [List.getD_eq_getElem?_getD]; rw [List.getElem?_append_right (by rw [h.len]; omega), h.len, Nat.sub_self]; rfl,
        show (es ++ [x]).getD es.length [] = x from by simp]
      have hno : ∀ b, w1.heap.size ≤ b → lv.ownBlock ≠ some b := fun b hb e => by have := (h.own.lt b e).2; omega
      have h3 := hrd.kept (W' := w2.alloc (.cells #[.slice A x.length c] 24)) fun a y ha hy => (World.cell?_of_block (Below.heap_alloc w2 _ _ ha.2)).trans hy
      have h4 := h3.kept (W' := w4) fun a y ha hy => hgr.cell hy fun e => hno _ ha.1 e.symm
      exact (keep h4 fun b hb => by have := hb.1; omega).mono fun b hb => ⟨by have := hb.1; omega, by rw [hset]; have := hb.2; omega, ownNew b (by have := hb.2; omega) (hno b hb.1)⟩
  · exact ((h.below.trans (hb13.mono (by omega))).grown hgr (by simp; omega) (fun b hb => by have := hbk b hb; omega)).setCell (Nat.le_refl _) _
theorem msg_at40 (r : Raw) (d i l : Value) : (msgA r d i l)[40]? = some l := by rw [msgA, arr_get]; rfl
theorem ListAt.rdr {w0 : World} {r : Raw} {d i : Value} {bs : List UInt8} {Z : Array Value} {k : Nat} {wr : World} {es : List (List UInt8)} {lv : Value} {vs : List Value} (h : ListAt w0 r d i bs Z k wr es lv vs) (hm : bs.length ≤ 100000000)
    (hr : RdR w0 (fun b => b < w0.heap.size) r d i nilS) : RdR wr (fun b => b < wr.heap.size ∧ b ≠ w0.heap.size + 1) { r with list := es } d i lv := by
  have h2 := (hr.below h.below).mono (ok' := fun b => b < wr.heap.size ∧ b ≠ w0.heap.size + 1) fun b (hb : b < w0.heap.size) => ⟨Nat.lt_of_lt_of_le hb h.below.size, by omega⟩
  refine ⟨h2.data, h2.ids, ?_⟩
  rcases ownsRow_forms' h.own with ⟨rfl, h0⟩ | ⟨g, cap, rfl⟩
  · have he : es = [] := List.eq_nil_of_length_eq_zero h0
    subst he
    exact ⟨none, 0, rfl, Nat.zero_le _, fun k hk => absurd hk (by simp)⟩
  · refine ⟨some ⟨g, 0, none⟩, cap, rfl, by have := h.few; have := h.le; show es.length ≤ _; omega, fun j hj => ?_⟩
    have hj' : j < vs.length := by rw [h.len]; exact hj
    have hc := h.own.cells (g := g) rfl j vs[j] (List.getElem?_eq_getElem hj')
    refine ⟨⟨g, 0, none⟩, vs[j], rfl, ⟨(h.own.lt g rfl).2, by have := (h.own.lt g rfl).1; show g ≠ w0.heap.size + 1; omega⟩, hc, ?_⟩
    have := h.rd j hj
    rw [List.getD_eq_getElem?_getD, List.getElem?_eq_getElem hj'] at this
    exact this.mono fun b hb => ⟨hb.2.1, by have := hb.1; omega⟩
theorem ListAt.rdl {w0 : World} {r : Raw} {d i : Value} {bs : List UInt8} {Z : Array Value} {k : Nat} {wr : World} {es : List (List UInt8)} {lv : Value} {vs : List Value} (h : ListAt w0 r d i bs Z k wr es lv vs) (hm : bs.length ≤ 100000000) :
    ∃ A c, lv = .slice A es.length c ∧ es.length ≤ 140737488351232 ∧ RdP wr (fun b => w0.heap.size + 2 ≤ b ∧ b < wr.heap.size) A es := by
  have hle : es.length ≤ 140737488351232 := by have := h.few; have := h.le; omega
  rcases ownsRow_forms' h.own with ⟨rfl, h0⟩ | ⟨g, cap, rfl⟩
  · have he : es = [] := List.eq_nil_of_length_eq_zero h0
    subst he
    exact ⟨none, 0, rfl, Nat.zero_le _, fun k hk => absurd hk (by simp)⟩
  · refine ⟨some ⟨g, 0, none⟩, cap, rfl, hle, fun j hj => ?_⟩
    have hj' : j < vs.length := by rw [h.len]; exact hj
    have hc := h.own.cells (g := g) rfl j vs[j] (List.getElem?_eq_getElem hj')
    refine ⟨⟨g, 0, none⟩, vs[j], rfl, ⟨(h.own.lt g rfl).1, (h.own.lt g rfl).2⟩, hc, ?_⟩
    have := h.rd j hj
    rw [List.getD_eq_getElem?_getD, List.getElem?_eq_getElem hj'] at this
    exact this.mono fun b hb => ⟨hb.1, hb.2.1⟩
set_option maxRecDepth 100000 in
set_option maxHeartbeats 8000000 in
theorem refPut9 (r : Raw) (d i : Value) (bs : List UInt8) (hne : bs ≠ []) (hm : bs.length ≤ 100000000) (w : World) (hr : RdR w (fun b => b < w.heap.size) r d i nilS) :
    Calls Try.prog 27 #[.agg (msgA r d i nilS), .int .i64 9, .string ⟨bs.toArray⟩] w fun e w' => (runs bs = none → ∃ M, e = .returned (.tuple #[.agg M, .int .i64 20]) ∧ M.size = 41 ∧ M.all (·.oneCell') = true) ∧ (∀ es, runs bs = some es → ∃ l', e = .returned (.tuple #[.agg (msgA { r with list := es } d i l'), .int .i64 0]) ∧ (msgA { r with list := es } d i l').all (·.oneCell') = true ∧ ∃ A c, l' = .slice A es.length c ∧ es.length ≤ 140737488351232 ∧ RdP w' (fresh w w') A es) ∧ Below w.heap.size w w' := by
  have hem := str_some hne
  have hsz := ba_len bs
  have hst : ∀ (Z : Array Value) ob, ob = .cells Z 28 → ListAt w r d i bs Z 0 ((w.alloc (.cells (msgA r d i nilS) 28)).alloc ob) [] nilS [] := fun Z ob hob => by
    subst hob
    exact ⟨Nat.zero_le _, by rw [List.drop_zero]; cases runs bs <;> simp, (Blk.new _ _ _).alloc _, Blk.newAt _ _ (by simp) rfl, World.ownsRow_nil _ _ _ _, rfl, fun j hj => absurd hj (by simp), by simp, ((Below.refl _ w).alloc (Nat.le_refl _) _).alloc (by simp) _, Nat.zero_le _⟩
  have htk := fun k hk W => refTake_any bs k hk (by omega) W
  obtain ⟨S, hS⟩ : ∃ S : ByteArray, ⟨bs.toArray⟩ = S := ⟨_, rfl⟩
  obtain ⟨Z, hZ⟩ : ∃ Z, msgA (zeroRaw 0) nilS nilS nilS = Z := ⟨_, rfl⟩
  have hzs : Z.size = 41 := by rw [← hZ]; exact arr_size _ _
  have HZ := Lib.hid hZ
  have HZS := Lib.hid hzs
  obtain ⟨n, hn⟩ : ∃ n, bs.length = n := ⟨_, rfl⟩
  obtain ⟨M0, hM0⟩ : ∃ M, msgA r d i nilS = M := ⟨_, rfl⟩
  rw [hM0] at hst ⊢
  rw [hS] at hem hsz htk ⊢
  rw [hn] at hsz htk
  have HTK := Lib.hid htk
  have HST := Lib.hid (hst Z)
  have HNM := Lib.hid (And.intro hn hm)
  have HR := Lib.hid hr
  clear hst htk hS hZ hzs hr hne hM0 hm hn
  go_enter Try.func27, Try.ntmps27
  go_wp2
  go_loopw [11] (fun v wr => ∃ (k : Nat) (es : List (List UInt8)) (lv : Value) (vs : List Value), v = .int .i64 (k : Int) ∧ ListAt w r d i bs Z k wr es lv vs) (fun v _ => n - (intOf v).toNat)
  case atStart => exact ⟨0, [], nilS, [], rfl, HST.out _ (by rw [← HZ.out]; kernel_rfl)⟩
  case round =>
    obtain ⟨k, es, lv, vs, rfl, hL⟩ := hrel
    have hk := hL.le
    rw [HNM.out.1] at hk
    have hrdr := hL.rdr HNM.out.2 HR.out
    have hall := msg_all hrdr
    have hs1 : (msgA { r with list := es } d i lv).size = 41 := arr_size _ _
    have hatl : Blk wr w.heap.size 28 (msgA { r with list := es } d i lv) := hL.at_
    have hc40 : wr.cell? ⟨w.heap.size, 40, none⟩ = some lv := (hL.at_.cell 40).trans (msg_at40 r d i lv)
    have HL := Lib.hid hL
    have HC40 := Lib.hid hc40
    obtain ⟨M1, hM1⟩ : ∃ M, msgA { r with list := es } d i lv = M := ⟨_, rfl⟩
    rw [hM1] at hall hs1 hatl
    have HM1 := Lib.hid hM1
    have HS1 := Lib.hid hs1
    have HA1 := Lib.hid hall
    have HAT := Lib.hid hatl
    have HRR := Lib.hid hrdr
    clear hL hrdr hall hs1 hatl hc40 hM1
    by_cases hlt : k < n
    · have hkn : (k : Int) < (n : Int) := by omega
      have hnb : (n : Int) ≤ 100000000 := by have := HNM.out; omega
      have htk := HTK.out k hk wr
      cases ht : take3 (bs.drop k) with
      | none =>
        have HT : Hid (Calls Try.prog 26 #[.string S, .int .i64 (k : Int)] wr fun e w' => e = .returned (.tuple #[.string ⟨#[]⟩, .int .i64 (k : Int), .bool false]) ∧ Below wr.heap.size wr w') := Lib.hid (by
          refine htk.mono ?_
          rintro e w' ⟨h1, h2⟩
          unfold TakeOut at h1
          rw [ht] at h1
          exact ⟨h1, h2⟩)
        have HNO : Hid (runs bs = none) := Lib.hid (by
          rw [HL.out.runs, runs_stop (fun h => by have := congrArg List.length h; rw [List.length_drop, HNM.out.1] at this; simp at this; omega) ht]
          rfl)
        clear htk ht
        go_wp2_with (first
          | (go_at_call 26; refine HT.out.mono ?_; rintro e w1 ⟨rfl, hb1⟩; have hx1 := HAT.out.below hb1 HAT.out.lt; have hR1 := HL.out.res.below hb1 HL.out.res.lt; have HW1 := Lib.hid (HL.out.below.trans (hb1.mono HL.out.below.size)); clear hb1)
          | (guard_target = wpList _ _ _ (Oper.mk _ (.load 28 _) _ _ _ _ :: _) _ _; refine wpList_load_row rfl 28 _ rfl w.heap.size rfl 28 (M1) (0, 0) _ (hx1) Try.underlying28 rfl (by rw [HS1.out]; kernel_rfl) ?_)
          | (guard_target = wpList _ _ _ (Oper.mk _ (.store 28 _ _) _ _ _ _ :: _) _ _; refine wpList_store_arrW rfl 28 _ _ rfl (w.heap.size + 1) (M1) rfl rfl 28 _ (hR1) (by rw [HS1.out]; kernel_rfl) (by rw [HS1.out, HZS.out]) (HA1.out) ?_; intro W9 hS9 hz9 hb9 ho9))
        refine bodyPost_ret (results_cell_tmp (p := 6) (q := 7) rfl _ _ (w.heap.size + 1) 28 _ _ rfl hS9 Try.underlying28 rfl (by rw [HS1.out]; kernel_rfl)) rfl ?_
        exact ⟨fun _ => ⟨_, rfl, HS1.out, HA1.out⟩, fun es2 h => absurd h (by rw [HNO.out]; simp), HW1.out.trans (hb9.mono (by omega))⟩
      | some xt =>
        obtain ⟨x, t⟩ := xt
        have hx24 := take3_len ht
        have htd := take3_drop ht
        rw [HNM.out.1] at htd
        have HT : Hid (Calls Try.prog 26 #[.string S, .int .i64 (k : Int)] wr fun e w' => e = .returned (.tuple #[.string ⟨x.toArray⟩, .int .i64 ((k + 3 + x.length : Nat) : Int), .bool true]) ∧ Below wr.heap.size wr w') := Lib.hid (by
          refine htk.mono ?_
          rintro e w' ⟨h1, h2⟩
          unfold TakeOut at h1
          rw [ht] at h1
          exact ⟨h1, h2⟩)
        have HTT := Lib.hid ht
        have HTD := Lib.hid htd
        obtain ⟨k2, hk2⟩ : ∃ k2, k + 3 + x.length = k2 := ⟨_, rfl⟩
        rw [hk2] at HT
        have HK2 := Lib.hid hk2
        clear htk ht htd hk2
        go_wp2_with (first
          | (go_at_call 26; refine HT.out.mono ?_; rintro e w1 ⟨rfl, hb1⟩; have c40 := (hb1.cell (p := ⟨w.heap.size, 40, none⟩) HAT.out.lt).trans HC40.out; have HB1 := Lib.hid hb1; clear hb1)
          | (guard_target = wpList _ _ _ (Oper.mk _ (.convert _ _ _) _ _ _ _ :: _) _ _; refine wpList_bytes_of rfl _ rfl ⟨x.toArray⟩ rfl x rfl (by omega) ?_; intro A c w2 hrd hb2; obtain ⟨g, cap, w4, hrun, hat4, hL5⟩ := HL.out.step HTT.out HB1.out hrd hb2 HNM.out.2; have R1 := Lib.hid hrun; have kc : w4.cell? ⟨w.heap.size, 40, none⟩ = some lv := (hat4.cell 40).trans (msg_at40 r d i lv); have kf := hat4.frozen 40; have HL5 := Lib.hid hL5; clear hrun hat4 hL5 hrd hb2)
          | (at_builtin; refine wpList_append_run rfl (.tmp 105) (.tmp 108) _ _ rfl _ _ rfl rfl _ _ R1.out ?_))
        go_roundw
        case rel => exact ⟨k2, es ++ [x], _, _, rfl, by rw [← HK2.out]; exact HL5.out⟩
        case measure => have := HTD.out.2; have := HK2.out; simp [intOf]; omega
    · obtain rfl : k = n := by omega
      have HYES : Hid (runs bs = some es) := Lib.hid (by
        rw [HL.out.runs, List.drop_of_length_le (by rw [HNM.out.1]; exact Nat.le_refl _), runs, dif_pos rfl]
        simp)
      go_wp2_with (first
        | (guard_target = wpList _ _ _ (Oper.mk _ (.load 28 _) _ _ _ _ :: _) _ _; refine wpList_load_row rfl 28 _ rfl w.heap.size rfl 28 (M1) (0, 0) _ (HAT.out) Try.underlying28 rfl (by rw [HS1.out]; kernel_rfl) ?_)
        | (guard_target = wpList _ _ _ (Oper.mk _ (.store 28 _ _) _ _ _ _ :: _) _ _; refine wpList_store_arrW rfl 28 _ _ rfl (w.heap.size + 1) (M1) rfl rfl 28 _ (HL.out.res) (by rw [HS1.out]; kernel_rfl) (by rw [HS1.out, HZS.out]) (HA1.out) ?_; intro W9 hS9 hz9 hb9 ho9))
      refine bodyPost_ret (results_cell_tmp (p := 6) (q := 7) rfl _ _ (w.heap.size + 1) 28 _ _ rfl hS9 Try.underlying28 rfl (by rw [HS1.out]; kernel_rfl)) rfl ?_
      have hw9 := HL.out.below.trans (hb9.mono (by omega))
      refine ⟨fun h => absurd h (by rw [HYES.out]; simp), fun es2 h => ?_, hw9⟩
      rw [HYES.out] at h
      cases h
      obtain ⟨A, c, hA1, hA2, hA3⟩ := HL.out.rdl HNM.out.2
      exact ⟨lv, by rw [HM1.out]; rfl, by rw [HM1.out]; exact HA1.out, A, c, hA1, hA2, (hA3.kept (W' := W9) fun a y ha hy => (World.cell?_of_block (ho9 a.block (by have := ha.1; omega))).trans hy).mono fun b hb => ⟨by have := hb.1; omega, by rw [hz9]; exact hb.2⟩⟩
end Go.Proofs.Ytjdgcciemlfapaa
namespace Go.Proofs.Ytjdgcciemlfapaa
open Go Go.RowKit PackMath

theorem wp_build_id {o : Oper} {a : Act} {w : World} {K : Act → World → Prop} {Q : Exit → Act → World → Prop} (x : Operand) (ho : o.op = .buildSlice 25 1 #[(0, x)]) (f : Nat → UInt8) (hx : a.eval x = .agg (arr 32 fun i => bv (f i)))
    (h : K (a.put o.dst (.slice (some ⟨w.heap.size, 0, none⟩) 1 1)) (w.alloc (.cells (arr 32 fun i => bv (f i)) 23))) : o.wp Try.prog a w K Q := by
  obtain ⟨i0, hi, hz0, hz1, hz2⟩ := info_parts info_id
  refine wp_buildSlice 25 23 1 _ ho (arr 32 fun i => bv (f i)) i0 _ Try.underlying25 hi hz0 (by rw [hz1]; decide) (by rw [hz1]; decide) ?_ h
  rw [hz1]
  simp only [List.map_toArray, List.map_cons, List.map_nil, hx]
  kernel_rfl
theorem app_id {B : Nat} {w : World} (hB : B ≤ w.heap.size) {v : Value} {n : Nat} {xs : List Value} (hown : w.ownsRow B 23 32 v n xs) (f : Nat → UInt8) {g0 : Nat} (hg0 : Blk w g0 23 (arr 32 fun i => bv (f i))) (hn : n ≤ 100000000) :
    ∃ g cap w', (Builtin.append_ #[25, 25] 25 #[v, .slice (some ⟨g0, 0, none⟩) 1 1]).run Try.prog w = .ok (.slice (some ⟨g, 0, none⟩) (n + 1) cap) w' ∧
      w'.ownsRow B 23 32 (.slice (some ⟨g, 0, none⟩) (n + 1) cap) (n + 1) (xs ++ (id32 f).map bv) ∧ w.grownBy w' v.ownBlock := by
  obtain ⟨i0, hi, hz0, hz1, hz2⟩ := info_parts info_id
  obtain ⟨v', w', hrun, hown', hgr, _, _⟩ := run_append_own_at (P := Try.prog) w B 25 25 23 i0 _ 32 32 Try.underlying25 hi hz0 hz1 hz2 (by simp [Value.cells]) (by omega) v n xs hown ⟨g0, 0, none⟩ 1 1 ((id32 f).map bv) (by simp [id32])
    (fun j u hu => by
      have hj : j < 32 := by
        by_cases hj : j < 32
        · exact hj
        · rw [List.getElem?_eq_none (by simp [id32]; omega)] at hu; cases hu
      rw [add_zero_block, hg0.cell, arr_get, if_pos hj, ← hu]
      simp [id32, hj]) (fun u hu => by
      simp only [List.mem_map] at hu
      obtain ⟨b, _, rfl⟩ := hu
      rfl) (by unfold maxLen; omega) (by omega) hB
  rcases ownsRow_forms' hown' with ⟨_, h0⟩ | ⟨g, cap, rfl⟩
  · omega
  · exact ⟨g, cap, w', hrun, hown', hgr⟩
theorem msg_at39 (r : Raw) (d i l : Value) : (msgA r d i l)[39]? = some i := by rw [msgA, arr_get]; rfl
theorem ref_set39 (r : Raw) (d i l v : Value) : (msgA r d i l).setIfInBounds 39 v = msgA r d v l := by
  rw [msgA, set_row _ _ _ _ (by omega)]
  refine arr_congr fun j hj => ?_
  match j with
  | 0 => rfl
  | 1 => rfl
  | 2 => rfl
  | 3 => rfl
  | 4 => rfl
  | 5 => rfl
  | m + 6 =>
    show (if m + 6 = 39 then v else if m + 6 < 38 then bv (r.id (m + 6 - 6)) else if m + 6 = 38 then d else if m + 6 = 39 then i else l) = if m + 6 < 38 then bv (r.id (m + 6 - 6)) else if m + 6 = 38 then d else if m + 6 = 39 then v else l
    by_cases h : m + 6 = 39
    · rw [if_pos h, if_neg (by omega), if_neg (by omega), if_pos h]
    · rw [if_neg h]
      by_cases h2 : m + 6 < 38
      · rw [if_pos h2, if_pos h2]
      · rw [if_neg h2, if_neg h2, if_neg h, if_neg h]
theorem ids_cell (ps : List (Nat → UInt8)) (k i : Nat) (hk : k < ps.length) (hi : i < 32) : ((ps.map id32).flatten.map bv)[32 * k + i]? = some (bv (ps.getD k (fun _ => 0) i)) := by
  have hp : pos (ps.map id32) k = 32 * k := by
    unfold pos
    rw [← List.map_take, ids_len, List.length_take]
    congr 1
    omega
  have hg : (ps.map id32).getD k [] = id32 (ps.getD k fun _ => 0) := by
    rw [List.getD_eq_getElem?_getD, List.getElem?_map, List.getElem?_eq_getElem hk, List.getD_eq_getElem?_getD, List.getElem?_eq_getElem hk]
    rfl
  have h := flat_at (ps.map id32) k i (by simpa using hk) (by rw [hg, id32_length]; exact hi)
  rw [hp, hg, id32_getD _ _ hi] at h
  have hl : 32 * k + i < (ps.map id32).flatten.length := by rw [ids_len]; omega
  rw [List.getD_eq_getElem?_getD, List.getElem?_eq_getElem hl] at h
  rw [List.getElem?_map, List.getElem?_eq_getElem hl, ← h]
  rfl
/-- The IDs so far. -/
structure IdsAt (w0 : World) (r : Raw) (d l : Value) (bs : List UInt8) (Z : Array Value) (m : Nat) (wr : World) (lv : Value) : Prop where
  le : 32 * m ≤ bs.length
  at_ : Blk wr w0.heap.size 28 (msgA r d lv l)
  res : Blk wr (w0.heap.size + 1) 28 Z
  own : wr.ownsRow (w0.heap.size + 2) 23 32 lv m ((((idsOf bs).take m).map id32).flatten.map bv)
  size : w0.heap.size + 2 ≤ wr.heap.size
  below : Below w0.heap.size w0 wr
theorem IdsAt.rdr {w0 : World} {r : Raw} {d l : Value} {bs : List UInt8} {Z : Array Value} {m : Nat} {wr : World} {lv : Value} (h : IdsAt w0 r d l bs Z m wr lv) (hm : bs.length ≤ 100000000)
    (hr : RdR w0 (fun b => b < w0.heap.size) r d nilS l) : RdR wr (fun b => b < wr.heap.size ∧ b ≠ w0.heap.size + 1) { r with ids := (idsOf bs).take m } d lv l := by
  have h2 := (hr.below h.below).mono (ok' := fun b => b < wr.heap.size ∧ b ≠ w0.heap.size + 1) fun b (hb : b < w0.heap.size) => ⟨Nat.lt_of_lt_of_le hb h.below.size, by omega⟩
  have hlen : ((idsOf bs).take m).length = m := by rw [List.length_take, idsOf_length]; have := h.le; omega
  refine ⟨h2.data, ?_, h2.list⟩
  rcases ownsRow_forms' h.own with ⟨rfl, h0⟩ | ⟨g, cap, rfl⟩
  · subst h0
    exact ⟨none, 0, by show _ = Value.slice none ((idsOf bs).take 0).length 0; rw [hlen], by show ((idsOf bs).take 0).length ≤ _; rw [hlen]; omega, fun k hk => absurd hk (by show ¬ k < ((idsOf bs).take 0).length; rw [hlen]; omega)⟩
  · refine ⟨some ⟨g, 0, none⟩, cap, by show _ = Value.slice _ ((idsOf bs).take m).length _; rw [hlen], by show ((idsOf bs).take m).length ≤ _; rw [hlen]; have := h.le; omega, fun k hk => ⟨⟨g, 0, none⟩, rfl, ⟨(h.own.lt g rfl).2, by have := (h.own.lt g rfl).1; show g ≠ w0.heap.size + 1; omega⟩, fun i hi => ?_⟩⟩
    exact h.own.cells (g := g) rfl (32 * k + i) _ (ids_cell _ k i hk hi)
theorem IdsAt.rdi {w0 : World} {r : Raw} {d l : Value} {bs : List UInt8} {Z : Array Value} {m : Nat} {wr : World} {lv : Value} (h : IdsAt w0 r d l bs Z m wr lv) (hm : bs.length ≤ 100000000) :
    ∃ A c, lv = .slice A ((idsOf bs).take m).length c ∧ ((idsOf bs).take m).length ≤ 140737488351232 ∧ RdI wr (fun b => w0.heap.size + 2 ≤ b ∧ b < wr.heap.size) A ((idsOf bs).take m) := by
  have hlen : ((idsOf bs).take m).length = m := by rw [List.length_take, idsOf_length]; have := h.le; omega
  have hle : ((idsOf bs).take m).length ≤ 140737488351232 := by rw [hlen]; have := h.le; omega
  rcases ownsRow_forms' h.own with ⟨rfl, h0⟩ | ⟨g, cap, rfl⟩
  · refine ⟨none, 0, by rw [hlen, h0], hle, fun k hk => absurd hk (by rw [hlen, h0]; omega)⟩
  · exact ⟨some ⟨g, 0, none⟩, cap, by rw [hlen], hle, fun k hk => ⟨⟨g, 0, none⟩, rfl, ⟨(h.own.lt g rfl).1, (h.own.lt g rfl).2⟩, fun i hi => h.own.cells (g := g) rfl (32 * k + i) _ (ids_cell _ k i hk hi)⟩⟩
/-- One ID more. -/
theorem IdsAt.step {w0 : World} {r : Raw} {d l : Value} {bs : List UInt8} {Z : Array Value} {m : Nat} {wr : World} {lv : Value} (h : IdsAt w0 r d l bs Z m wr lv) (hm : 32 * m + 32 ≤ bs.length) (hm8 : bs.length ≤ 100000000) {w1 : World} (hb1 : Below wr.heap.size wr w1) (f : Nat → UInt8) (hf : (fun i => bs.getD (32 * m + i) 0) = f) :
    ∃ g cap w4, (Builtin.append_ #[25, 25] 25 #[lv, .slice (some ⟨w1.heap.size, 0, none⟩) 1 1]).run Try.prog (w1.alloc (.cells (arr 32 fun i => bv (f i)) 23)) = .ok (.slice (some ⟨g, 0, none⟩) (m + 1) cap) w4 ∧
      Blk w4 w0.heap.size 28 (msgA r d lv l) ∧
      IdsAt w0 r d l bs Z (m + 1) (w4.setCell ⟨w0.heap.size, 39, none⟩ (.slice (some ⟨g, 0, none⟩) (m + 1) cap)) (.slice (some ⟨g, 0, none⟩) (m + 1) cap) := by
  have h1s := hb1.size
  have hsz := h.size
  have hb13 : Below wr.heap.size wr (w1.alloc (.cells (arr 32 fun i => bv (f i)) 23)) := hb1.alloc (by omega) _
  have hown3 : (w1.alloc (.cells (arr 32 fun i => bv (f i)) 23)).ownsRow (w0.heap.size + 2) 23 32 lv m ((((idsOf bs).take m).map id32).flatten.map bv) := ownsRow_heap h.own fun b hb => hb13.block b (h.own.lt b hb).2
  obtain ⟨g, cap, w4, hrun, hown4, hgr⟩ := app_id (by simp; omega) hown3 f (Blk.new w1 23 _) (by omega)
  have hbk : ∀ b, lv.ownBlock = some b → w0.heap.size + 2 ≤ b := fun b hb => (h.own.lt b hb).1
  have hat4 := (h.at_.below hb13 h.at_.lt).grown hgr (fun e => by have := hbk _ e.symm; omega)
  have hres4 := (h.res.below hb13 h.res.lt).grown hgr (fun e => by have := hbk _ e.symm; omega)
  have hg2 : w0.heap.size + 2 ≤ g := (hown4.lt g rfl).1
  have h4s := hgr.size
  simp at h4s
  have hset : (w4.setCell ⟨w0.heap.size, 39, none⟩ (.slice (some ⟨g, 0, none⟩) (m + 1) cap)).heap.size = w4.heap.size := by simp [World.setCell]
  have hlen : m < (idsOf bs).length := by rw [idsOf_length]; omega
  refine ⟨g, cap, w4, hrun, hat4, ⟨by omega, (hat4.store 39 _).same (ref_set39 _ _ _ _ _), hres4.far (by show w0.heap.size + 1 ≠ w0.heap.size; omega) _, ?_, by rw [hset]; omega, ?_⟩⟩
  · have e : (((idsOf bs).take (m + 1)).map id32).flatten.map bv = (((idsOf bs).take m).map id32).flatten.map bv ++ (id32 f).map bv := by
      have e2 : id32 ((idsOf bs).getD m fun _ => 0) = id32 f := by
        rw [← hf]
        exact List.map_congr_left fun i _ => idsOf_getD bs m i (by rw [idsOf_length] at hlen; exact hlen)
      rw [ids_snoc _ _ hlen, List.map_append, e2]
    rw [e]
    exact ownsRow_heap hown4 fun b hb => Below.heap_setCell w4 ⟨w0.heap.size, 39, none⟩ _ _ (by simp only [Value.ownBlock, Option.some.injEq] at hb; show b ≠ w0.heap.size; omega)
  · exact ((h.below.trans (hb13.mono (by omega))).grown hgr (by simp; omega) (fun b hb => by have := hbk b hb; omega)).setCell (Nat.le_refl _) _
set_option maxRecDepth 100000 in
set_option maxHeartbeats 8000000 in
theorem refPut8 (r : Raw) (d l : Value) (bs : List UInt8) (hne : bs ≠ []) (hm : bs.length ≤ 100000000) (w : World) (hr : RdR w (fun b => b < w.heap.size) r d nilS l) :
    Calls Try.prog 27 #[.agg (msgA r d nilS l), .int .i64 8, .string ⟨bs.toArray⟩] w fun e w' => (bs.length % 32 ≠ 0 → ∃ M, e = .returned (.tuple #[.agg M, .int .i64 23]) ∧ M.size = 41 ∧ M.all (·.oneCell') = true) ∧ (bs.length % 32 = 0 → ∃ i', e = .returned (.tuple #[.agg (msgA { r with ids := idsOf bs } d i' l), .int .i64 0]) ∧ (msgA { r with ids := idsOf bs } d i' l).all (·.oneCell') = true ∧ ∃ A c, i' = .slice A (idsOf bs).length c ∧ (idsOf bs).length ≤ 140737488351232 ∧ RdI w' (fresh w w') A (idsOf bs)) ∧ Below w.heap.size w w' := by
  have hem := str_some hne
  have hsz := ba_len bs
  have hst : ∀ (Z : Array Value) ob, ob = .cells Z 28 → IdsAt w r d l bs Z 0 ((w.alloc (.cells (msgA r d nilS l) 28)).alloc ob) nilS := fun Z ob hob => by
    subst hob
    exact ⟨Nat.zero_le _, (Blk.new _ _ _).alloc _, Blk.newAt _ _ (by simp) rfl, World.ownsRow_nil _ _ _ _, by simp, ((Below.refl _ w).alloc (Nat.le_refl _) _).alloc (by simp) _⟩
  have hid := fun k hk W => refId_any bs k hk (by omega) W
  obtain ⟨S, hS⟩ : ∃ S : ByteArray, ⟨bs.toArray⟩ = S := ⟨_, rfl⟩
  obtain ⟨Z, hZ⟩ : ∃ Z, msgA (zeroRaw 0) nilS nilS nilS = Z := ⟨_, rfl⟩
  have hzs : Z.size = 41 := by rw [← hZ]; exact arr_size _ _
  have HZ := Lib.hid hZ
  have HZS := Lib.hid hzs
  obtain ⟨n, hn⟩ : ∃ n, bs.length = n := ⟨_, rfl⟩
  rw [hS] at hem hsz hid ⊢
  rw [hn] at hsz hid
  have HIDA := Lib.hid hid
  have HST := Lib.hid (hst Z)
  have HNM := Lib.hid (And.intro hn hm)
  have HR := Lib.hid hr
  clear hst hid hS hZ hzs hr hne hm hn
  by_cases h32 : n % 32 = 0
  · have hrem : (n : Int) % 32 = 0 := by omega
    have hrem2 : Int.tmod (n : Int) 32 = 0 := by rw [Int.tmod_eq_emod_of_nonneg (by omega)]; omega
    have hn8 : (n : Int) ≤ 100000000 := by have := HNM.out; omega
    go_enter Try.func27, Try.ntmps27
    go_wp2
    go_loopw [10] (fun v wr => ∃ (m : Nat) (lv : Value), v = .int .i64 ((32 * m : Nat) : Int) ∧ IdsAt w r d l bs Z m wr lv) (fun v _ => n - (intOf v).toNat)
    case atStart => exact ⟨0, nilS, rfl, HST.out _ (by rw [← HZ.out]; kernel_rfl)⟩
    case round =>
      obtain ⟨m, lv, rfl, hI⟩ := hrel
      have hk := hI.le
      rw [HNM.out.1] at hk
      obtain ⟨k, hkk⟩ : ∃ k, 32 * m = k := ⟨_, rfl⟩
      rw [hkk] at hk ⊢
      have HK := Lib.hid hkk
      have HI := Lib.hid hI
      have hc39 : wr.cell? ⟨w.heap.size, 39, none⟩ = some lv := (hI.at_.cell 39).trans (msg_at39 r d lv l)
      clear hI hkk
      by_cases hlt : k < n
      · have hkn : (k : Int) < (n : Int) := by omega
        have hk32 : k + 32 ≤ n := by have := HK.out; omega
        have HLT : Hid (32 * m + 32 ≤ bs.length) := Lib.hid (by rw [HNM.out.1, HK.out]; exact hk32)
        have hid := fun W => HIDA.out k hk32 W
        obtain ⟨f, hf⟩ : ∃ f : Nat → UInt8, (fun i => bs.getD (32 * m + i) 0) = f := ⟨_, rfl⟩
        have hfa : (arr 32 fun i => bv (bs.getD (k + i) 0)) = arr 32 fun i => bv (f i) := arr_congr fun j _ => by rw [← hf, HK.out]
        rw [hfa] at hid
        have HID := Lib.hid hid
        have HF := Lib.hid hf
        have q : Below wr.heap.size wr wr.drew := (Below.refl _ _).drew
        have hatl := HI.out.at_.lt
        have ALL : Hid (∀ W', Below wr.heap.size wr W' → W'.cell? ⟨w.heap.size, 39, none⟩ = some lv) := Lib.hid fun W' hb' => (hb'.cell (p := ⟨w.heap.size, 39, none⟩) hatl).trans hc39
        clear hid hf hfa hc39 hatl
        go_wp2
        refine wp_region_held_drew (S := fun _ => True) (by kernel_rfl) ?_ (fun hHeld => ?_)
        · trivial
        refine wpAnyH_take (i := 0) (oi := ⟨some 80, _, _, _, _, _⟩) (v := ?_) rfl (by kernel_rfl) (by kernel_rfl) (by kernel_rfl) (fun _ _ _ h => h) (Or.inl ⟨by rfl, ?_⟩) (by assumption) ?_
        rotate_left
        · intro w hSw; (try dsimp only at hSw); go_simp; try (with_reducible rfl)
        rotate_left 0
        try simp only [Act.put, List.setIfInBounds_toArray, List.set_cons_zero, List.set_cons_succ]
        refine wpAnyH_take (i := 2) (oi := ⟨some 82, _, _, _, _, _⟩) (v := ?_) rfl (by kernel_rfl) (by kernel_rfl) (by kernel_rfl) (fun _ _ _ h => h) (Or.inl ⟨by rfl, ?_⟩) (by assumption) ?_
        rotate_left
        · intro w hSw; (try dsimp only at hSw); go_simp; try (with_reducible rfl)
        rotate_left 0
        try simp only [Act.put, List.setIfInBounds_toArray, List.set_cons_zero, List.set_cons_succ]
        refine wpAnyH_take (i := 3) (oi := ⟨some 83, _, _, _, _, _⟩) (v := ?_) rfl (by kernel_rfl) (by kernel_rfl) (by kernel_rfl) (fun _ _ _ h => h) (Or.inl ⟨by rfl, ?_⟩) (by assumption) ?_
        rotate_left
        · intro w hSw; (try dsimp only at hSw); go_simp; try (with_reducible rfl)
        rotate_left 0
        try simp only [Act.put, List.setIfInBounds_toArray, List.set_cons_zero, List.set_cons_succ]
        refine wpAnyH_ready (rs := [1, 4]) (by kernel_rfl) (by simp) ?_
        refine AllReadyH.cons (o := ⟨some 81, _, _, _, _, _⟩) rfl (fun K hK => ?_) (AllReadyH.cons (o := ⟨some 84, _, _, _, _, _⟩) rfl (fun K hK => ?_) AllReadyH.nil)
        · have h7 := ALL.out _ q
          (try rw [if_pos (by rfl)])
          go_simp
          try dsimp only
          refine hK.out _ _ ?_ (fun hHeld => ?_)
          · trivial
          clear hK K
          try simp only [Act.put, List.setIfInBounds_toArray, List.set_cons_zero, List.set_cons_succ]
          clear h7
          refine wpAnyH_ready (rs := [4]) (by kernel_rfl) (by simp) ?_
          refine AllReadyH.cons (o := ⟨some 84, _, _, _, _, _⟩) rfl (fun K hK => ?_) AllReadyH.nil
          (try rw [if_pos (by rfl)])
          go_simp
          refine (HID.out _).mono ?_
          rintro e w1 ⟨rfl, hb1⟩
          have q1 := Kp.call q hb1
          try dsimp only
          refine hK.out _ _ ?_ (fun hHeld => ?_)
          · trivial
          clear hK K
          try simp only [Act.put, List.setIfInBounds_toArray, List.set_cons_zero, List.set_cons_succ]
          refine wpAnyH_ready (rs := [5]) (by kernel_rfl) (by simp) ?_
          refine AllReadyH.cons (o := ⟨some 85, _, _, _, _, _⟩) rfl (fun K hK => ?_) AllReadyH.nil
          rw [if_pos (by rfl)]
          refine wp_build_id (.tmp 84) rfl f rfl ?_
          try dsimp only
          refine hK.out _ _ ?_ (fun hHeld => ?_)
          · trivial
          clear hK K
          try simp only [Act.put, List.setIfInBounds_toArray, List.set_cons_zero, List.set_cons_succ]
          obtain ⟨g, cap, w4, hrun, hat4, hI5⟩ := HI.out.step HLT.out HNM.out.2 q1 f HF.out
          have R1 := Lib.hid hrun
          have kc : w4.cell? ⟨w.heap.size, 39, none⟩ = some lv := (hat4.cell 39).trans (msg_at39 r d lv l)
          have kf := hat4.frozen 39
          have HI5 := Lib.hid hI5
          clear hrun hat4 hI5
          refine wpAnyH_ready (rs := [6]) (by kernel_rfl) (by simp) ?_
          refine AllReadyH.cons (o := ⟨some 86, _, _, _, _, _⟩) rfl (fun K hK => ?_) AllReadyH.nil
          rw [if_pos (by rfl)]
          refine oper_append (.tmp 81) (.tmp 85) _ _ rfl _ _ rfl rfl _ _ R1.out ?_
          refine hK.out _ _ ?_ (fun hHeld => ?_)
          · trivial
          clear hK K
          try simp only [Act.put, List.setIfInBounds_toArray, List.set_cons_zero, List.set_cons_succ]
          refine wpAnyH_take (i := 7) (oi := ⟨some 87, _, _, _, _, _⟩) (v := ?_) rfl (by kernel_rfl) (by kernel_rfl) (by kernel_rfl) (fun _ _ _ h => h) (Or.inl ⟨by rfl, ?_⟩) (by assumption) ?_
          rotate_left
          · intro w hSw; (try dsimp only at hSw); go_simp; try (with_reducible rfl)
          rotate_left 0
          try simp only [Act.put, List.setIfInBounds_toArray, List.set_cons_zero, List.set_cons_succ]
          refine wpAnyH_ready (rs := [8]) (by kernel_rfl) (by simp) ?_
          refine AllReadyH.cons (o := ⟨none, _, _, _, _, _⟩) rfl (fun K hK => ?_) AllReadyH.nil
          go_simp
          refine hK.out _ _ ?_ (fun hHeld => ?_)
          · trivial
          clear hK K
          try simp only [Act.put, List.setIfInBounds_toArray, List.set_cons_zero, List.set_cons_succ]
          refine wpAnyH_done (by kernel_rfl) ?_ _
          clear hHeld q q1 hb1 ALL
          go_wp2
          go_roundw
          case rel => exact ⟨m + 1, _, by have hk' := HK.out; go_num, HI5.out⟩
          case measure => have := HK.out; simp [intOf]; omega
        · (try rw [if_pos (by rfl)])
          go_simp
          refine (HID.out _).mono ?_
          rintro e w1 ⟨rfl, hb1⟩
          have q1 := Kp.call q hb1
          try dsimp only
          refine hK.out _ _ ?_ (fun hHeld => ?_)
          · trivial
          clear hK K
          try simp only [Act.put, List.setIfInBounds_toArray, List.set_cons_zero, List.set_cons_succ]
          refine wpAnyH_ready (rs := [1, 5]) (by kernel_rfl) (by simp) ?_
          refine AllReadyH.cons (o := ⟨some 81, _, _, _, _, _⟩) rfl (fun K hK => ?_) (AllReadyH.cons (o := ⟨some 85, _, _, _, _, _⟩) rfl (fun K hK => ?_) AllReadyH.nil)
          · have h7 := ALL.out _ q1
            (try rw [if_pos (by rfl)])
            go_simp
            try dsimp only
            refine hK.out _ _ ?_ (fun hHeld => ?_)
            · trivial
            clear hK K
            try simp only [Act.put, List.setIfInBounds_toArray, List.set_cons_zero, List.set_cons_succ]
            clear h7
            refine wpAnyH_ready (rs := [5]) (by kernel_rfl) (by simp) ?_
            refine AllReadyH.cons (o := ⟨some 85, _, _, _, _, _⟩) rfl (fun K hK => ?_) AllReadyH.nil
            rw [if_pos (by rfl)]
            refine wp_build_id (.tmp 84) rfl f rfl ?_
            try dsimp only
            refine hK.out _ _ ?_ (fun hHeld => ?_)
            · trivial
            clear hK K
            try simp only [Act.put, List.setIfInBounds_toArray, List.set_cons_zero, List.set_cons_succ]
            obtain ⟨g, cap, w4, hrun, hat4, hI5⟩ := HI.out.step HLT.out HNM.out.2 q1 f HF.out
            have R1 := Lib.hid hrun
            have kc : w4.cell? ⟨w.heap.size, 39, none⟩ = some lv := (hat4.cell 39).trans (msg_at39 r d lv l)
            have kf := hat4.frozen 39
            have HI5 := Lib.hid hI5
            clear hrun hat4 hI5
            refine wpAnyH_ready (rs := [6]) (by kernel_rfl) (by simp) ?_
            refine AllReadyH.cons (o := ⟨some 86, _, _, _, _, _⟩) rfl (fun K hK => ?_) AllReadyH.nil
            rw [if_pos (by rfl)]
            refine oper_append (.tmp 81) (.tmp 85) _ _ rfl _ _ rfl rfl _ _ R1.out ?_
            refine hK.out _ _ ?_ (fun hHeld => ?_)
            · trivial
            clear hK K
            try simp only [Act.put, List.setIfInBounds_toArray, List.set_cons_zero, List.set_cons_succ]
            refine wpAnyH_take (i := 7) (oi := ⟨some 87, _, _, _, _, _⟩) (v := ?_) rfl (by kernel_rfl) (by kernel_rfl) (by kernel_rfl) (fun _ _ _ h => h) (Or.inl ⟨by rfl, ?_⟩) (by assumption) ?_
            rotate_left
            · intro w hSw; (try dsimp only at hSw); go_simp; try (with_reducible rfl)
            rotate_left 0
            try simp only [Act.put, List.setIfInBounds_toArray, List.set_cons_zero, List.set_cons_succ]
            refine wpAnyH_ready (rs := [8]) (by kernel_rfl) (by simp) ?_
            refine AllReadyH.cons (o := ⟨none, _, _, _, _, _⟩) rfl (fun K hK => ?_) AllReadyH.nil
            go_simp
            refine hK.out _ _ ?_ (fun hHeld => ?_)
            · trivial
            clear hK K
            try simp only [Act.put, List.setIfInBounds_toArray, List.set_cons_zero, List.set_cons_succ]
            refine wpAnyH_done (by kernel_rfl) ?_ _
            clear hHeld q q1 hb1 ALL
            go_wp2
            go_roundw
            case rel => exact ⟨m + 1, _, by have hk' := HK.out; go_num, HI5.out⟩
            case measure => have := HK.out; simp [intOf]; omega
          · rw [if_pos (by rfl)]
            refine wp_build_id (.tmp 84) rfl f rfl ?_
            try dsimp only
            refine hK.out _ _ ?_ (fun hHeld => ?_)
            · trivial
            clear hK K
            try simp only [Act.put, List.setIfInBounds_toArray, List.set_cons_zero, List.set_cons_succ]
            refine wpAnyH_ready (rs := [1]) (by kernel_rfl) (by simp) ?_
            refine AllReadyH.cons (o := ⟨some 81, _, _, _, _, _⟩) rfl (fun K hK => ?_) AllReadyH.nil
            have h7 := ALL.out _ (Kp.alloc q1 (.cells (arr 32 fun i => bv (f i)) 23))
            (try rw [if_pos (by rfl)])
            go_simp
            try dsimp only
            refine hK.out _ _ ?_ (fun hHeld => ?_)
            · trivial
            clear hK K
            try simp only [Act.put, List.setIfInBounds_toArray, List.set_cons_zero, List.set_cons_succ]
            clear h7
            obtain ⟨g, cap, w4, hrun, hat4, hI5⟩ := HI.out.step HLT.out HNM.out.2 q1 f HF.out
            have R1 := Lib.hid hrun
            have kc : w4.cell? ⟨w.heap.size, 39, none⟩ = some lv := (hat4.cell 39).trans (msg_at39 r d lv l)
            have kf := hat4.frozen 39
            have HI5 := Lib.hid hI5
            clear hrun hat4 hI5
            refine wpAnyH_ready (rs := [6]) (by kernel_rfl) (by simp) ?_
            refine AllReadyH.cons (o := ⟨some 86, _, _, _, _, _⟩) rfl (fun K hK => ?_) AllReadyH.nil
            rw [if_pos (by rfl)]
            refine oper_append (.tmp 81) (.tmp 85) _ _ rfl _ _ rfl rfl _ _ R1.out ?_
            refine hK.out _ _ ?_ (fun hHeld => ?_)
            · trivial
            clear hK K
            try simp only [Act.put, List.setIfInBounds_toArray, List.set_cons_zero, List.set_cons_succ]
            refine wpAnyH_take (i := 7) (oi := ⟨some 87, _, _, _, _, _⟩) (v := ?_) rfl (by kernel_rfl) (by kernel_rfl) (by kernel_rfl) (fun _ _ _ h => h) (Or.inl ⟨by rfl, ?_⟩) (by assumption) ?_
            rotate_left
            · intro w hSw; (try dsimp only at hSw); go_simp; try (with_reducible rfl)
            rotate_left 0
            try simp only [Act.put, List.setIfInBounds_toArray, List.set_cons_zero, List.set_cons_succ]
            refine wpAnyH_ready (rs := [8]) (by kernel_rfl) (by simp) ?_
            refine AllReadyH.cons (o := ⟨none, _, _, _, _, _⟩) rfl (fun K hK => ?_) AllReadyH.nil
            go_simp
            refine hK.out _ _ ?_ (fun hHeld => ?_)
            · trivial
            clear hK K
            try simp only [Act.put, List.setIfInBounds_toArray, List.set_cons_zero, List.set_cons_succ]
            refine wpAnyH_done (by kernel_rfl) ?_ _
            clear hHeld q q1 hb1 ALL
            go_wp2
            go_roundw
            case rel => exact ⟨m + 1, _, by have hk' := HK.out; go_num, HI5.out⟩
            case measure => have := HK.out; simp [intOf]; omega
      · obtain rfl : k = n := by omega
        have hm2 : 32 * m = bs.length := by rw [HK.out, HNM.out.1]
        have htake : (idsOf bs).take m = idsOf bs := List.take_of_length_le (by rw [idsOf_length]; omega)
        have HTK := Lib.hid htake
        have hrdr := HI.out.rdr HNM.out.2 HR.out
        rw [htake] at hrdr
        have hall := msg_all hrdr
        have hs1 : (msgA { r with ids := idsOf bs } d lv l).size = 41 := arr_size _ _
        have hatl : Blk wr w.heap.size 28 (msgA { r with ids := idsOf bs } d lv l) := HI.out.at_
        obtain ⟨M1, hM1⟩ : ∃ M, msgA { r with ids := idsOf bs } d lv l = M := ⟨_, rfl⟩
        rw [hM1] at hall hs1 hatl
        have HM1 := Lib.hid hM1
        have HS1 := Lib.hid hs1
        have HA1 := Lib.hid hall
        have HAT := Lib.hid hatl
        have HRR := Lib.hid hrdr
        clear hm2 htake hrdr hall hs1 hatl hM1 hc39
        go_wp2_with (first
          | (guard_target = wpList _ _ _ (Oper.mk _ (.load 28 _) _ _ _ _ :: _) _ _; refine wpList_load_row rfl 28 _ rfl w.heap.size rfl 28 (M1) (0, 0) _ (HAT.out) Try.underlying28 rfl (by rw [HS1.out]; kernel_rfl) ?_)
          | (guard_target = wpList _ _ _ (Oper.mk _ (.store 28 _ _) _ _ _ _ :: _) _ _; refine wpList_store_arrW rfl 28 _ _ rfl (w.heap.size + 1) (M1) rfl rfl 28 _ (HI.out.res) (by rw [HS1.out]; kernel_rfl) (by rw [HS1.out, HZS.out]) (HA1.out) ?_; intro W9 hS9 hz9 hb9 ho9))
        refine bodyPost_ret (results_cell_tmp (p := 6) (q := 7) rfl _ _ (w.heap.size + 1) 28 _ _ rfl hS9 Try.underlying28 rfl (by rw [HS1.out]; kernel_rfl)) rfl ?_
        have hw9 := HI.out.below.trans (hb9.mono (by omega))
        obtain ⟨A, c, hA1, hA2, hA3⟩ := HI.out.rdi HNM.out.2
        rw [HTK.out] at hA1 hA2 hA3
        exact ⟨fun h => absurd h32 (by rw [HNM.out.1] at h; exact h), fun _ => ⟨lv, by rw [HM1.out]; rfl, by rw [HM1.out]; exact HA1.out, A, c, hA1, hA2, (hA3.kept (W' := W9) fun a y ha hy => (World.cell?_of_block (ho9 a.block (by have := ha.1; omega))).trans hy).mono fun b hb => ⟨by have := hb.1; omega, by rw [hz9]; exact hb.2⟩⟩, hw9⟩
  · have hrem : ¬ (n : Int) % 32 = 0 := by omega
    have hrem1 : ((n : Int) % 32 != 0) = true := by simpa using hrem
    have hrem2 : ¬ Int.tmod (n : Int) 32 = 0 := by rw [Int.tmod_eq_emod_of_nonneg (by omega)]; exact hrem
    have hrem3 : (Int.tmod (n : Int) 32 != 0) = true := by simpa using hrem2
    have hL := HST.out (.cells Z 28) rfl
    have hrdr := HR.out
    have hall := msg_all hrdr
    have hs1 : (msgA r d nilS l).size = 41 := arr_size _ _
    have hR0 : Hid (∀ ob, Blk ((w.alloc (.cells (msgA r d nilS l) 28)).alloc ob) w.heap.size 28 (msgA r d nilS l)) := Lib.hid fun ob => (Blk.new _ _ _).alloc _
    obtain ⟨M1, hM1⟩ : ∃ M, msgA r d nilS l = M := ⟨_, rfl⟩
    rw [hM1] at hall hs1 hR0 ⊢
    have HS1 := Lib.hid hs1
    have HA1 := Lib.hid hall
    clear hL hrdr hall hs1 hM1
    go_enter Try.func27, Try.ntmps27
    go_wp2_with (first
      | (guard_target = wpList _ _ _ (Oper.mk _ (.load 28 _) _ _ _ _ :: _) _ _; refine wpList_load_row rfl 28 _ rfl w.heap.size rfl 28 (M1) (0, 0) _ (hR0.out _) Try.underlying28 rfl (by rw [HS1.out]; kernel_rfl) ?_)
      | (guard_target = wpList _ _ _ (Oper.mk _ (.store 28 _ _) _ _ _ _ :: _) _ _; refine wpList_store_arrW rfl 28 _ _ rfl (w.heap.size + 1) (M1) rfl rfl 28 _ (Blk.newAt _ _ (by simp) rfl) (by rw [HS1.out]; kernel_rfl) (by rw [HS1.out]; rfl) (HA1.out) ?_; intro W9 hS9 hz9 hb9 ho9))
    refine bodyPost_ret (results_cell_tmp (p := 6) (q := 7) rfl _ _ (w.heap.size + 1) 28 _ _ rfl hS9 Try.underlying28 rfl (by rw [HS1.out]; kernel_rfl)) rfl ?_
    exact ⟨fun _ => ⟨_, rfl, HS1.out, HA1.out⟩, fun h => absurd (by rw [HNM.out.1] at h; exact h) h32, (((Below.refl _ w).alloc (Nat.le_refl _) _).alloc (by simp) _).trans (hb9.mono (by omega))⟩
end Go.Proofs.Ytjdgcciemlfapaa
namespace Go.Proofs.Ytjdgcciemlfapaa
open Go Go.RowKit PackMath

/-- What the reference's put hands back. -/
def RefPutOut (w : World) (okb : Nat → Prop) (r : Raw) (i l : Value) (bs : List UInt8) (t : Nat) (e : Ending) (w' : World) : Prop :=
  match put r.m bs t with
  | .error c => c ≠ 0 ∧ ∃ M, e = .returned (.tuple #[.agg M, .int .i64 (c : Int)]) ∧ M.size = 41 ∧ M.all (·.oneCell') = true
  | .ok m' => ∃ r' d' i' l', r'.m = m' ∧ r'.NN ∧ e = .returned (.tuple #[.agg (msgA r' d' i' l'), .int .i64 0]) ∧ (msgA r' d' i' l').all (·.oneCell') = true ∧ RdR w' (fun b => okb b ∨ fresh w w' b) r' d' i' l' ∧ (t < 8 → i' = i ∧ r'.ids = r.ids) ∧ (t < 9 → l' = l ∧ r'.list = r.list)
set_option maxHeartbeats 1000000 in
theorem refPut_any (r : Raw) (d i l : Value) (bs : List UInt8) (t : Nat) (okb : Nat → Prop) (hne : bs ≠ []) (hm : bs.length ≤ 100000000) (ht1 : 1 ≤ t) (ht9 : t ≤ 9) (w : World) (hr : RdR w okb r d i l) (hok : ∀ b, okb b → b < w.heap.size) (hN : r.NN)
    (h8 : t = 8 → i = nilS) (h9 : t = 9 → l = nilS) :
    Calls Try.prog 27 #[.agg (msgA r d i l), .int .i64 (t : Int), .string ⟨bs.toArray⟩] w fun e w' => RefPutOut w okb r i l bs t e w' ∧ Below w.heap.size w w' := by
  have hr' : RdR w (fun b => b < w.heap.size) r d i l := hr.mono hok
  have keep : ∀ {w' : World}, Below w.heap.size w w' → RdR w' (fun b => okb b ∨ fresh w w' b) r d i l := fun {w'} h => (hr.kept (W' := w') fun a x ha hx => (h.cell (p := a) (hok _ ha)).trans hx).mono fun b hb => .inl hb
  obtain ⟨n0, n1, n2, n3, n4, n5⟩ := id hN
  unfold RefPutOut
  have hs : t = 1 ∨ t = 2 ∨ t = 3 ∨ t = 4 ∨ t = 5 ∨ t = 6 ∨ t = 7 ∨ t = 8 ∨ t = 9 := by omega
  rcases hs with rfl | rfl | rfl | rfl | rfl | rfl | rfl | rfl | rfl
  · refine (refPut1 r d i l bs hne (by omega) w hr').mono ?_
    rintro e w' ⟨h1, h2, hb⟩
    refine ⟨?_, hb⟩
    show match (match number bs with | some n => Except.ok { r.m with who := n } | none => .error 23 : Except Nat M) with | .error c => _ | .ok r' => _
    cases hq : number bs with
    | none => exact ⟨by omega, h1 hq⟩
    | some n =>
      obtain ⟨k1, k2, k3⟩ := keep hb
      exact ⟨{ r with who := (n : Int) }, d, i, l, rfl, ⟨n0, (by show (0 : Int) ≤ n; omega), n2, n3, n4, n5⟩, h2 n hq, msg_all (W := w') (r := { r with who := (n : Int) }) ⟨k1, k2, k3⟩, ⟨k1, k2, k3⟩, fun _ => ⟨rfl, rfl⟩, fun _ => ⟨rfl, rfl⟩⟩
  · refine (refPut2 r d i l bs hne (by omega) w hr').mono ?_
    rintro e w' ⟨h1, h2, hb⟩
    refine ⟨?_, hb⟩
    show match (match number bs with | some n => Except.ok { r.m with height := n } | none => .error 23 : Except Nat M) with | .error c => _ | .ok r' => _
    cases hq : number bs with
    | none => exact ⟨by omega, h1 hq⟩
    | some n =>
      obtain ⟨k1, k2, k3⟩ := keep hb
      exact ⟨{ r with height := (n : Int) }, d, i, l, rfl, ⟨n0, n1, (by show (0 : Int) ≤ n; omega), n3, n4, n5⟩, h2 n hq, msg_all (W := w') (r := { r with height := (n : Int) }) ⟨k1, k2, k3⟩, ⟨k1, k2, k3⟩, fun _ => ⟨rfl, rfl⟩, fun _ => ⟨rfl, rfl⟩⟩
  · refine (refPut3 r d i l bs hne (by omega) w hr').mono ?_
    rintro e w' ⟨h1, h2, hb⟩
    refine ⟨?_, hb⟩
    show match (match number bs with | some n => Except.ok { r.m with round := n } | none => .error 23 : Except Nat M) with | .error c => _ | .ok r' => _
    cases hq : number bs with
    | none => exact ⟨by omega, h1 hq⟩
    | some n =>
      obtain ⟨k1, k2, k3⟩ := keep hb
      exact ⟨{ r with round := (n : Int) }, d, i, l, rfl, ⟨n0, n1, n2, (by show (0 : Int) ≤ n; omega), n4, n5⟩, h2 n hq, msg_all (W := w') (r := { r with round := (n : Int) }) ⟨k1, k2, k3⟩, ⟨k1, k2, k3⟩, fun _ => ⟨rfl, rfl⟩, fun _ => ⟨rfl, rfl⟩⟩
  · refine (refPut4 r d i l bs hne (by omega) w hr').mono ?_
    rintro e w' ⟨h1, h2, hb⟩
    refine ⟨?_, hb⟩
    show match (match number bs with | some n => Except.ok { r.m with valid := n } | none => .error 23 : Except Nat M) with | .error c => _ | .ok r' => _
    cases hq : number bs with
    | none => exact ⟨by omega, h1 hq⟩
    | some n =>
      obtain ⟨k1, k2, k3⟩ := keep hb
      exact ⟨{ r with valid := (n : Int) }, d, i, l, rfl, ⟨n0, n1, n2, n3, (by show (0 : Int) ≤ n; omega), n5⟩, h2 n hq, msg_all (W := w') (r := { r with valid := (n : Int) }) ⟨k1, k2, k3⟩, ⟨k1, k2, k3⟩, fun _ => ⟨rfl, rfl⟩, fun _ => ⟨rfl, rfl⟩⟩
  · refine (refPut5 r d i l bs hne (by omega) w hr').mono ?_
    rintro e w' ⟨h1, h2, hb⟩
    refine ⟨?_, hb⟩
    show match (match number bs with | some n => Except.ok { r.m with num := n } | none => .error 23 : Except Nat M) with | .error c => _ | .ok r' => _
    cases hq : number bs with
    | none => exact ⟨by omega, h1 hq⟩
    | some n =>
      obtain ⟨k1, k2, k3⟩ := keep hb
      exact ⟨{ r with num := (n : Int) }, d, i, l, rfl, ⟨n0, n1, n2, n3, n4, (by show (0 : Int) ≤ n; omega)⟩, h2 n hq, msg_all (W := w') (r := { r with num := (n : Int) }) ⟨k1, k2, k3⟩, ⟨k1, k2, k3⟩, fun _ => ⟨rfl, rfl⟩, fun _ => ⟨rfl, rfl⟩⟩
  · refine (refPut6 r d i l bs hne (by omega) w hr').mono ?_
    rintro e w' ⟨h1, h2, hb⟩
    refine ⟨?_, hb⟩
    have hp : put r.m bs 6 = if bs.length ≠ 32 ∨ bs = zid then Except.error 23 else .ok { r.m with id := bs } := rfl
    rw [hp]
    by_cases hq : bs.length ≠ 32 ∨ bs = zid
    · rw [if_pos hq]
      exact ⟨by omega, h1 hq⟩
    · rw [if_neg hq]
      obtain ⟨k1, k2, k3⟩ := keep hb
      have h32 : bs.length = 32 := Decidable.byContradiction fun h => hq (.inl h)
      refine ⟨{ r with id := fun j => bs.getD j 0 }, d, i, l, ?_, ⟨n0, n1, n2, n3, n4, n5⟩, h2 hq, msg_all (W := w') (r := { r with id := fun j => bs.getD j 0 }) ⟨k1, k2, k3⟩, ⟨k1, k2, k3⟩, fun _ => ⟨rfl, rfl⟩, fun _ => ⟨rfl, rfl⟩⟩
      simp only [Raw.m, id32_of bs h32]
  · refine (refPut7 r d i l bs hne (by omega) w hr').mono ?_
    rintro e w' ⟨⟨d', he, hd, ha⟩, hb⟩
    refine ⟨?_, hb⟩
    have hp : put r.m bs 7 = Except.ok { r.m with data := bs } := rfl
    rw [hp]
    obtain ⟨k1, k2, k3⟩ := keep hb
    exact ⟨{ r with data := bs }, d', i, l, rfl, ⟨n0, n1, n2, n3, n4, n5⟩, he, ha, ⟨hd.mono fun b hb => .inr hb, k2, k3⟩, fun _ => ⟨rfl, rfl⟩, fun _ => ⟨rfl, rfl⟩⟩
  · obtain rfl := h8 rfl
    refine (refPut8 r d l bs hne hm w hr').mono ?_
    rintro e w' ⟨h1, h2, hb⟩
    refine ⟨?_, hb⟩
    have hp : put r.m bs 8 = if bs.length % 32 ≠ 0 then Except.error 23 else .ok { r.m with ids := cut32 bs } := rfl
    rw [hp]
    by_cases hq : bs.length % 32 = 0
    · rw [if_neg (fun h => h hq)]
      obtain ⟨i', he, ha, A, c, rfl, q2, q3⟩ := h2 hq
      obtain ⟨k1, k2, k3⟩ := keep hb
      refine ⟨{ r with ids := idsOf bs }, d, _, l, ?_, ⟨n0, n1, n2, n3, n4, n5⟩, he, ha, ⟨k1, ⟨A, c, rfl, q2, q3.mono fun b hb => .inr hb⟩, k3⟩, fun h => absurd h (by omega), fun _ => ⟨rfl, rfl⟩⟩
      simp only [Raw.m, idsOf_cut bs hq]
    · rw [if_pos hq]
      exact ⟨by omega, h1 hq⟩
  · obtain rfl := h9 rfl
    refine (refPut9 r d i bs hne hm w hr').mono ?_
    rintro e w' ⟨h1, h2, hb⟩
    refine ⟨?_, hb⟩
    show match (match runs bs with | some l => Except.ok { r.m with list := l } | none => .error 20 : Except Nat M) with | .error c => _ | .ok r' => _
    cases hq : runs bs with
    | none => exact ⟨by omega, h1 hq⟩
    | some es =>
      obtain ⟨l', he, ha, A, c, rfl, q2, q3⟩ := h2 es hq
      obtain ⟨k1, k2, k3⟩ := keep hb
      exact ⟨{ r with list := es }, d, i, _, rfl, ⟨n0, n1, n2, n3, n4, n5⟩, he, ha, ⟨k1, k2, ⟨A, c, rfl, q2, q3.mono fun b hb => .inr hb⟩⟩, fun _ => ⟨rfl, rfl⟩, fun h => absurd h (by omega)⟩
end Go.Proofs.Ytjdgcciemlfapaa
