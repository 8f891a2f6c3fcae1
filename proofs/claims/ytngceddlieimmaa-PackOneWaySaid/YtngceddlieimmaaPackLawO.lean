/-
  PackOneWay's walk: for every two messages and all bytes that read, in whatever memory: true; nothing old turns.
-/
import Derived.Test.YtngceddlieimmaaPackLawKit
namespace Go.Proofs.Ytngceddlieimmaa
open Go Go.RowKit PackMath

theorem yieldsIf_load_blk {P : Program} {ops : Array Oper} {S : World → Prop} {op : Oper} {a : Act} (hw : Region.wanted op (yielded ops a.tmps) = true) (ty : TypeId) (x : Operand) (ho : op.op = .load ty x)
    (g : Nat) (hx : a.eval x = .pointer (some ⟨g, 0, none⟩)) (t : TypeId) (cs : Array Value) (d : TypeDesc) (hS : ∀ w, S w → Blk w g t cs)
    (hu : P.underlying ty = some d) (hd : d.isRow = true) (hi : (P.info? ty).map (·.size) = some cs.size) : YieldsIf P ops S op (.agg cs) a := by
  have := yieldsIf_load_mid (S := S) hw ty x ho g 0 hx cs.toList d (fun w h => blk_range (hS w h)) hu hd (by simpa using hi)
  rw [Array.toArray_toList] at this
  exact this
theorem eql_str (a b : List UInt8) (w : World) : (binOp .eql 9 (.string ⟨a.toArray⟩) (.string ⟨b.toArray⟩)).run Try.prog w = .ok (.bool (a == b)) w := by
  show (Op.stringOp .eql ⟨a.toArray⟩ ⟨b.toArray⟩).run Try.prog w = _
  simp [Op.stringOp, ByteArray.toList_eq]
theorem neq_bool (β : Bool) (w : World) : (binOp .neq 4 (.bool β) (.bool β)).run Try.prog w = .ok (.bool false) w := by
  cases β <;> kernel_rfl
open Classical in
theorem like_eq {r r' : Raw} (hf : r.Fit) (hf' : r'.Fit) : (writeM r.m == writeM r'.m) = decide (r.Like r') := by
  by_cases h : r.Like r'
  · rw [decide_eq_true h, like_m h]
    simp
  · rw [decide_eq_false h]
    have : ¬ writeM r.m = writeM r'.m := fun e => h (like_of (write_inj hf.ok hf'.ok e) hf.nn hf'.nn)
    simpa using this
theorem zero_like (k : Int) : (zeroRaw k).Like (zeroRaw k) := ⟨rfl, rfl, rfl, rfl, rfl, rfl, rfl, rfl, rfl, rfl⟩
theorem write_some (r : Raw) (d i l : Value) (w : World) (hr : RdR w (fun b => b < w.heap.size) r d i l) :
    Calls Try.prog 11 #[.agg (msgA r d i l)] w fun e w' => (∃ (A : Option Addr) (n c : Nat) (k : Int), e = .returned (.tuple #[.slice A n c, .int .i64 k])) ∧ Below w.heap.size w w' := by
  by_cases hf : r.Fit
  · refine (callsIn_wide.1 (write_ok r hf d i l w hr)).mono ?_
    rintro e w' ⟨g, n, c, rfl, _, _, hb⟩
    exact ⟨⟨_, _, _, _, rfl⟩, hb⟩
  · refine (write_no r hf d i l w hr).mono ?_
    rintro e w' ⟨rfl, hb⟩
    exact ⟨⟨_, _, _, _, rfl⟩, hb⟩
set_option maxRecDepth 100000 in
set_option maxHeartbeats 8000000 in
theorem one_nay (r r' : Raw) (d i l d' i' l' : Value) (A : Option Addr) (c : Nat) (bb : List UInt8) (w : World) (hr : RdR w (fun b => b < w.heap.size) r d i l) (hr' : RdR w (fun b => b < w.heap.size) r' d' i' l') (hb : RdB w (fun b => b < w.heap.size) (.slice A bb.length c) bb) (hf : ¬ r.Fit) (r3 : Raw) (hq : readP bb = .ok r3) :
    Calls Try.prog 5 #[.agg (msgA r d i l), .agg (msgA r' d' i' l'), .slice A bb.length c] w fun e w' => e = .returned (.bool true) ∧ Below w.heap.size w w' := by
  have HALL : Hid (∀ w1, Below ((w.alloc (.cells (msgA r d i l) 28)).alloc (.cells (msgA r' d' i' l') 28)).heap.size ((w.alloc (.cells (msgA r d i l) 28)).alloc (.cells (msgA r' d' i' l') 28)) w1 → ∀ W, Below w1.heap.size w1 W → Blk W w.heap.size 28 (msgA r d i l) ∧ Blk W (w.heap.size + 1) 28 (msgA r' d' i' l') ∧ Below w.heap.size w W ∧ RdR W (fun b => b < W.heap.size) r d i l ∧ RdR W (fun b => b < W.heap.size) r' d' i' l' ∧ RdB W (fun b => b < W.heap.size) (.slice A bb.length c) bb) := Lib.hid fun w1 h1 W h2 => by
    have h12 := h1.trans (h2.mono h1.size)
    have hw : Below w.heap.size w W := (((Below.refl _ w).alloc (Nat.le_refl _) _).alloc (by simp) _).trans (h12.mono (by simp; omega))
    have b1 : Blk ((w.alloc (.cells (msgA r d i l) 28)).alloc (.cells (msgA r' d' i' l') 28)) w.heap.size 28 (msgA r d i l) := (Blk.new _ _ _).alloc _
    have b2 : Blk ((w.alloc (.cells (msgA r d i l) 28)).alloc (.cells (msgA r' d' i' l') 28)) (w.heap.size + 1) 28 (msgA r' d' i' l') := Blk.newAt _ _ (by simp) rfl
    exact ⟨b1.below h12 b1.lt, b2.below h12 b2.lt, hw, (hr.below hw).mono fun b hb => Nat.lt_of_lt_of_le hb hw.size, (hr'.below hw).mono fun b hb => Nat.lt_of_lt_of_le hb hw.size, (hb.kept fun a x ha h => (hw.cell (p := a) ha).trans h).mono fun b hb => Nat.lt_of_lt_of_le hb hw.size⟩
  have hs : (msgA r d i l).size = 41 := arr_size _ _
  have hs' : (msgA r' d' i' l').size = 41 := arr_size _ _
  have HWM := Lib.hid fun W hR => write_no r hf d i l W hR
  have hk0 : r.check ≠ 0 := fun h => hf (r.fit_iff.1 h)
  obtain ⟨kx, hkx⟩ : ∃ k, r.check = k := ⟨_, rfl⟩
  rw [hkx] at HWM hk0
  have hx1 : ¬ (kx : Int) = 0 := by omega
  have hx2 : ((kx : Int) == 0) = false := by simpa using hx1
  have HWN := Lib.hid fun W hR => write_some r' d' i' l' W hR
  have HRB := Lib.hid (read_ok hq)
  obtain ⟨hwb, hf3⟩ := readP_back hq
  have HWB := Lib.hid fun d3 i3 l3 W hR => callsIn_wide.1 (write_ok r3 hf3 d3 i3 l3 W hR)
  have hlz := write_len hf3.ok
  rw [hwb] at HWB hlz
  obtain ⟨M, hM⟩ : ∃ M, msgA r d i l = M := ⟨_, rfl⟩
  obtain ⟨M', hM'⟩ : ∃ M, msgA r' d' i' l' = M := ⟨_, rfl⟩
  rw [hM] at HALL hs HWM ⊢
  rw [hM'] at HALL hs' HWN ⊢
  obtain ⟨LB, hLB⟩ : ∃ n, bb.length = n := ⟨_, rfl⟩
  rw [hLB] at HALL HRB HWB hlz ⊢
  have HLZ := Lib.hid (And.intro hLB hlz)
  have HSZ := Lib.hid hs
  have HSZ2 := Lib.hid hs'
  clear hs hs' hr hr' hb hf hq hk0 hkx hwb hf3 hM hM' hlz hLB
  go_enter Try.func5, Try.ntmps5
  go_wp2_with (first
    | (go_at_call 10; refine (packs_any _).mono ?_; rintro e w1 ⟨rfl, hb1⟩; have ALLF : Hid (∀ W, Below w1.heap.size w1 W → Blk W w.heap.size 28 M ∧ Blk W (w.heap.size + 1) 28 M' ∧ Below w.heap.size w W ∧ RdR W (fun b => b < W.heap.size) r d i l ∧ RdR W (fun b => b < W.heap.size) r' d' i' l' ∧ RdB W (fun b => b < W.heap.size) (.slice A LB c) bb) := Lib.hid (HALL.out w1 hb1); clear hb1)
    | (guard_target = wpList _ _ _ _ _ _; refine wpList_load_row rfl 28 _ rfl (w.heap.size) rfl 28 M (0, 0) _ ((ALLF.out w1 (Below.refl _ _)).1) Try.underlying28 rfl (by rw [HSZ.out]; kernel_rfl) ?_)
    | (go_at_call 11; refine (HWM.out w1 (ALLF.out w1 (Below.refl _ _)).2.2.2.1).mono ?_; rintro e w2 ⟨rfl, hb2⟩; have hv2 : Below w1.heap.size w1 w2 := hb2; clear hb2 HWM)
    | (guard_target = wpList _ _ _ _ _ _; refine wpList_load_row rfl 28 _ rfl (w.heap.size + 1) rfl 28 M' (0, 0) _ ((ALLF.out w2 hv2).2.1) Try.underlying28 rfl (by rw [HSZ2.out]; kernel_rfl) ?_)
    | (go_at_call 11; refine (HWN.out w2 (ALLF.out w2 hv2).2.2.2.2.1).mono ?_; rintro e w3 ⟨⟨A5, n5, c5, k5, rfl⟩, hb3⟩; have hv3 := hv2.trans (hb3.mono hv2.size); have HV3 := Lib.hid hv3; clear hb3 hv2 hv3 HWN)
    | (go_at_call 13; refine (HRB.out _ _ _ (ALLF.out w3 HV3.out).2.2.2.2.2).mono ?_; rintro e w7 ⟨⟨d3, i3, l3, rfl, hR7⟩, hb7⟩; have hv7 := HV3.out.trans (hb7.mono HV3.out.size); have ha3 := msg_all hR7; have hs3 : (msgA r3 d3 i3 l3).size = 41 := arr_size _ _; have HW3 := Lib.hid (HWB.out d3 i3 l3); have HR7 := Lib.hid hR7; generalize msgA r3 d3 i3 l3 = M3 at hs3 ha3 HW3 ⊢; clear hR7 hb7)
    | (guard_target = wpList _ _ _ _ _ _; refine wpList_store_arrW rfl 28 _ _ rfl w7.heap.size M3 rfl rfl 28 _ (Blk.new _ _ _) (by rw [hs3]; kernel_rfl) (by rw [hs3]; rfl) ha3 ?_; intro W8 hS8 hz8 hb8 ho8; have old : ∀ b, b < w7.heap.size → W8.heap[b]? = w7.heap[b]? := fun b hb => (ho8 b (by omega)).trans (Below.heap_alloc w7 _ b hb); have hv8 := hv7.trans ((((Below.refl _ w7).alloc (Nat.le_refl _) _).trans hb8).mono hv7.size); have hR8 := (HR7.out.kept (W' := W8) fun a x ha h => (World.cell?_of_block (old a.block ha.2)).trans h).mono (ok' := fun b => b < W8.heap.size) (fun b hb => by have := hb.2; rw [hz8]; simp; omega); have HW8 := Lib.hid (HW3.out W8 hR8); have HV8 := Lib.hid hv8; clear old hR8 hz8 hb8 ho8 hv7 hv8)
    | (guard_target = wpList _ _ _ _ _ _; refine wpList_load_row rfl 28 _ rfl (w7.heap.size) rfl 28 M3 (0, 0) _ (hS8) Try.underlying28 rfl (by rw [hs3]; kernel_rfl) ?_)
    | (go_at_call 11; refine HW8.out.mono ?_; rintro e w10 ⟨gz, nz, cz, rfl, hn, hown, hb10⟩; have hv10 := HV8.out.trans (hb10.mono HV8.out.size); have hcv1 := str_rd (own_rd hown (hn.trans HLZ.out.1.symm) (by have := HLZ.out; omega)); have hcv2 := str_rd (ALLF.out w10 hv10).2.2.2.2.2; have HEND := Lib.hid (ALLF.out w10 hv10).2.2.1; clear hn hown hb10 hv10 hS8))
  go_ret
  exact ⟨rfl, HEND.out⟩
set_option maxRecDepth 100000 in
set_option maxHeartbeats 8000000 in
theorem one_nan (r r' : Raw) (d i l d' i' l' : Value) (A : Option Addr) (c : Nat) (bb : List UInt8) (w : World) (hr : RdR w (fun b => b < w.heap.size) r d i l) (hr' : RdR w (fun b => b < w.heap.size) r' d' i' l') (hb : RdB w (fun b => b < w.heap.size) (.slice A bb.length c) bb) (hf : ¬ r.Fit) (k2 : Nat) (hq : readP bb = .error k2) :
    Calls Try.prog 5 #[.agg (msgA r d i l), .agg (msgA r' d' i' l'), .slice A bb.length c] w fun e w' => e = .returned (.bool true) ∧ Below w.heap.size w w' := by
  have HALL : Hid (∀ w1, Below ((w.alloc (.cells (msgA r d i l) 28)).alloc (.cells (msgA r' d' i' l') 28)).heap.size ((w.alloc (.cells (msgA r d i l) 28)).alloc (.cells (msgA r' d' i' l') 28)) w1 → ∀ W, Below w1.heap.size w1 W → Blk W w.heap.size 28 (msgA r d i l) ∧ Blk W (w.heap.size + 1) 28 (msgA r' d' i' l') ∧ Below w.heap.size w W ∧ RdR W (fun b => b < W.heap.size) r d i l ∧ RdR W (fun b => b < W.heap.size) r' d' i' l' ∧ RdB W (fun b => b < W.heap.size) (.slice A bb.length c) bb) := Lib.hid fun w1 h1 W h2 => by
    have h12 := h1.trans (h2.mono h1.size)
    have hw : Below w.heap.size w W := (((Below.refl _ w).alloc (Nat.le_refl _) _).alloc (by simp) _).trans (h12.mono (by simp; omega))
    have b1 : Blk ((w.alloc (.cells (msgA r d i l) 28)).alloc (.cells (msgA r' d' i' l') 28)) w.heap.size 28 (msgA r d i l) := (Blk.new _ _ _).alloc _
    have b2 : Blk ((w.alloc (.cells (msgA r d i l) 28)).alloc (.cells (msgA r' d' i' l') 28)) (w.heap.size + 1) 28 (msgA r' d' i' l') := Blk.newAt _ _ (by simp) rfl
    exact ⟨b1.below h12 b1.lt, b2.below h12 b2.lt, hw, (hr.below hw).mono fun b hb => Nat.lt_of_lt_of_le hb hw.size, (hr'.below hw).mono fun b hb => Nat.lt_of_lt_of_le hb hw.size, (hb.kept fun a x ha h => (hw.cell (p := a) ha).trans h).mono fun b hb => Nat.lt_of_lt_of_le hb hw.size⟩
  have hs : (msgA r d i l).size = 41 := arr_size _ _
  have hs' : (msgA r' d' i' l').size = 41 := arr_size _ _
  have HWM := Lib.hid fun W hR => write_no r hf d i l W hR
  have hk0 : r.check ≠ 0 := fun h => hf (r.fit_iff.1 h)
  obtain ⟨kx, hkx⟩ : ∃ k, r.check = k := ⟨_, rfl⟩
  rw [hkx] at HWM hk0
  have hx1 : ¬ (kx : Int) = 0 := by omega
  have hx2 : ((kx : Int) == 0) = false := by simpa using hx1
  have HWN := Lib.hid fun W hR => write_some r' d' i' l' W hR
  have HRB := Lib.hid (read_no hq)
  have HZB := Lib.hid built_msg0
  have hz : (msgA (zeroRaw 0) nilS nilS nilS).size = 41 := arr_size _ _
  have hza : (msgA (zeroRaw 0) nilS nilS nilS).all (·.oneCell') = true := msg_all (zero_rd w (fun _ => False) 0)
  have HSZZ := Lib.hid fun W => same_yes (zero_like 0) nilS nilS nilS nilS nilS nilS W (zero_rd W _ 0) (zero_rd W _ 0)
  obtain ⟨Z, hZ⟩ : ∃ Z, msgA (zeroRaw 0) nilS nilS nilS = Z := ⟨_, rfl⟩
  rw [hZ] at HRB HZB hz hza HSZZ
  have HZS := Lib.hid hz
  have HZA := Lib.hid hza
  obtain ⟨M, hM⟩ : ∃ M, msgA r d i l = M := ⟨_, rfl⟩
  obtain ⟨M', hM'⟩ : ∃ M, msgA r' d' i' l' = M := ⟨_, rfl⟩
  rw [hM] at HALL hs HWM ⊢
  rw [hM'] at HALL hs' HWN ⊢
  obtain ⟨LB, hLB⟩ : ∃ n, bb.length = n := ⟨_, rfl⟩
  rw [hLB] at HALL HRB ⊢
  have HSZ := Lib.hid hs
  have HSZ2 := Lib.hid hs'
  clear hs hs' hr hr' hb hf hq hk0 hkx hz hza hZ hM hM' hLB
  go_enter Try.func5, Try.ntmps5
  go_wp2_with (first
    | (go_at_call 10; refine (packs_any _).mono ?_; rintro e w1 ⟨rfl, hb1⟩; have ALLF : Hid (∀ W, Below w1.heap.size w1 W → Blk W w.heap.size 28 M ∧ Blk W (w.heap.size + 1) 28 M' ∧ Below w.heap.size w W ∧ RdR W (fun b => b < W.heap.size) r d i l ∧ RdR W (fun b => b < W.heap.size) r' d' i' l' ∧ RdB W (fun b => b < W.heap.size) (.slice A LB c) bb) := Lib.hid (HALL.out w1 hb1); clear hb1)
    | (guard_target = wpList _ _ _ _ _ _; refine wpList_load_row rfl 28 _ rfl (w.heap.size) rfl 28 M (0, 0) _ ((ALLF.out w1 (Below.refl _ _)).1) Try.underlying28 rfl (by rw [HSZ.out]; kernel_rfl) ?_)
    | (go_at_call 11; refine (HWM.out w1 (ALLF.out w1 (Below.refl _ _)).2.2.2.1).mono ?_; rintro e w2 ⟨rfl, hb2⟩; have hv2 : Below w1.heap.size w1 w2 := hb2; clear hb2 HWM)
    | (guard_target = wpList _ _ _ _ _ _; refine wpList_load_row rfl 28 _ rfl (w.heap.size + 1) rfl 28 M' (0, 0) _ ((ALLF.out w2 hv2).2.1) Try.underlying28 rfl (by rw [HSZ2.out]; kernel_rfl) ?_)
    | (go_at_call 11; refine (HWN.out w2 (ALLF.out w2 hv2).2.2.2.2.1).mono ?_; rintro e w3 ⟨⟨A5, n5, c5, k5, rfl⟩, hb3⟩; have hv3 := hv2.trans (hb3.mono hv2.size); have HV3 := Lib.hid hv3; clear hb3 hv2 hv3 HWN)
    | (go_at_call 13; refine (HRB.out _ _ _ (ALLF.out w3 HV3.out).2.2.2.2.2).mono ?_; rintro e w7 ⟨⟨rfl, hk2⟩, hb7⟩; have hq1 : ¬ (k2 : Int) = 0 := (by omega); have hq2 : ((k2 : Int) != 0) = true := (by simpa using hq1); have hv7 := HV3.out.trans (hb7.mono HV3.out.size); clear hk2 hb7)
    | (guard_target = wpList _ _ _ _ _ _; refine wpList_store_arrW rfl 28 _ _ rfl w7.heap.size Z rfl rfl 28 _ (Blk.new _ _ _) (by rw [HZS.out]; kernel_rfl) (by rw [HZS.out]; rfl) HZA.out ?_; intro W8 hS8 hz8 hb8 ho8; have HV8 := Lib.hid (hv7.trans ((((Below.refl _ w7).alloc (Nat.le_refl _) _).trans hb8).mono hv7.size)); clear hz8 hb8 ho8 hv7)
    | (guard_target = wpList _ _ _ _ _ _; refine wpList_load_row rfl 28 _ rfl (w7.heap.size) rfl 28 Z (0, 0) _ (hS8) Try.underlying28 rfl (by rw [HZS.out]; kernel_rfl) ?_)
    | (guard_target = wpList _ _ _ (Oper.mk _ (.build _ _) _ _ _ _ :: _) _ _; refine wpList_build rfl 28 _ rfl (by kernel_rfl) ?_; simp only [List.map_toArray, List.map_nil]; rw [HZB.out])
    | (go_at_call 15; refine (HSZZ.out _).mono ?_; rintro e w10 ⟨rfl, hb10⟩; have HEND := Lib.hid (ALLF.out w10 (HV8.out.trans (hb10.mono HV8.out.size))).2.2.1; clear hb10 hS8))
  go_ret
  exact ⟨rfl, HEND.out⟩
open Classical in
set_option maxRecDepth 100000 in
set_option maxHeartbeats 8000000 in
theorem one_yyy (r r' : Raw) (d i l d' i' l' : Value) (A : Option Addr) (c : Nat) (bb : List UInt8) (w : World) (hr : RdR w (fun b => b < w.heap.size) r d i l) (hr' : RdR w (fun b => b < w.heap.size) r' d' i' l') (hb : RdB w (fun b => b < w.heap.size) (.slice A bb.length c) bb) (hf : r.Fit) (hf' : r'.Fit) (r3 : Raw) (hq : readP bb = .ok r3) :
    Calls Try.prog 5 #[.agg (msgA r d i l), .agg (msgA r' d' i' l'), .slice A bb.length c] w fun e w' => e = .returned (.bool true) ∧ Below w.heap.size w w' := by
  have HALL : Hid (∀ w1, Below ((w.alloc (.cells (msgA r d i l) 28)).alloc (.cells (msgA r' d' i' l') 28)).heap.size ((w.alloc (.cells (msgA r d i l) 28)).alloc (.cells (msgA r' d' i' l') 28)) w1 → ∀ W, Below w1.heap.size w1 W → Blk W w.heap.size 28 (msgA r d i l) ∧ Blk W (w.heap.size + 1) 28 (msgA r' d' i' l') ∧ Below w.heap.size w W ∧ RdR W (fun b => b < W.heap.size) r d i l ∧ RdR W (fun b => b < W.heap.size) r' d' i' l' ∧ RdB W (fun b => b < W.heap.size) (.slice A bb.length c) bb) := Lib.hid fun w1 h1 W h2 => by
    have h12 := h1.trans (h2.mono h1.size)
    have hw : Below w.heap.size w W := (((Below.refl _ w).alloc (Nat.le_refl _) _).alloc (by simp) _).trans (h12.mono (by simp; omega))
    have b1 : Blk ((w.alloc (.cells (msgA r d i l) 28)).alloc (.cells (msgA r' d' i' l') 28)) w.heap.size 28 (msgA r d i l) := (Blk.new _ _ _).alloc _
    have b2 : Blk ((w.alloc (.cells (msgA r d i l) 28)).alloc (.cells (msgA r' d' i' l') 28)) (w.heap.size + 1) 28 (msgA r' d' i' l') := Blk.newAt _ _ (by simp) rfl
    exact ⟨b1.below h12 b1.lt, b2.below h12 b2.lt, hw, (hr.below hw).mono fun b hb => Nat.lt_of_lt_of_le hb hw.size, (hr'.below hw).mono fun b hb => Nat.lt_of_lt_of_le hb hw.size, (hb.kept fun a x ha h => (hw.cell (p := a) ha).trans h).mono fun b hb => Nat.lt_of_lt_of_le hb hw.size⟩
  have hs : (msgA r d i l).size = 41 := arr_size _ _
  have hs' : (msgA r' d' i' l').size = 41 := arr_size _ _
  have HWM := Lib.hid fun W hR => callsIn_wide.1 (write_ok r hf d i l W hR)
  obtain ⟨r2, hrp, hrm, hrn⟩ := readP_write hf
  have hlk := like_of hrm hrn hf.nn
  have HRX := Lib.hid (read_ok hrp)
  have HSX := Lib.hid fun d2 i2 l2 W hr2 hr1 => same_yes hlk d2 i2 l2 d i l W hr2 hr1
  have hlx := write_len hf.ok
  have hpx := writeM_pos r.m
  have HWN := Lib.hid fun W hR => callsIn_wide.1 (write_ok r' hf' d' i' l' W hR)
  have hly := write_len hf'.ok
  have heq := eql_str (writeM r.m) (writeM r'.m)
  rw [like_eq hf hf'] at heq
  have HSN := Lib.hid fun W hr1 hr2 => same_any r r' d i l d' i' l' W hr1 hr2
  obtain ⟨β, hβ⟩ : ∃ β, decide (r.Like r') = β := ⟨_, rfl⟩
  rw [hβ] at heq HSN
  have HEQ := Lib.hid heq
  have HRB := Lib.hid (read_ok hq)
  obtain ⟨hwb, hf3⟩ := readP_back hq
  have HWB := Lib.hid fun d3 i3 l3 W hR => callsIn_wide.1 (write_ok r3 hf3 d3 i3 l3 W hR)
  have hlz := write_len hf3.ok
  rw [hwb] at HWB hlz
  obtain ⟨M, hM⟩ : ∃ M, msgA r d i l = M := ⟨_, rfl⟩
  obtain ⟨M', hM'⟩ : ∃ M, msgA r' d' i' l' = M := ⟨_, rfl⟩
  rw [hM] at HALL hs HWM HSX HSN ⊢
  rw [hM'] at HALL hs' HWN HSN ⊢
  obtain ⟨bx, hbx⟩ : ∃ b, writeM r.m = b := ⟨_, rfl⟩
  rw [hbx] at HWM HRX hlx hpx HEQ
  obtain ⟨nx0, hnx⟩ : ∃ n, bx.length = n := ⟨_, rfl⟩
  rw [hnx] at HWM HRX hlx hpx
  have HLX := Lib.hid (And.intro hnx hlx)
  obtain ⟨by_, hby⟩ : ∃ b, writeM r'.m = b := ⟨_, rfl⟩
  rw [hby] at HWN hly HEQ
  obtain ⟨ny0, hny⟩ : ∃ n, by_.length = n := ⟨_, rfl⟩
  rw [hny] at HWN hly
  have HLY := Lib.hid (And.intro hny hly)
  obtain ⟨LB, hLB⟩ : ∃ n, bb.length = n := ⟨_, rfl⟩
  rw [hLB] at HALL HRB HWB hlz ⊢
  have HLZ := Lib.hid (And.intro hLB hlz)
  have HSZ := Lib.hid hs
  have HSZ2 := Lib.hid hs'
  clear hs hs' hr hr' hb hf hq hf' hrp hrm hrn hlk heq hβ hwb hf3 hM hM' hbx hnx hlx hpx hby hny hly hlz hLB
  go_enter Try.func5, Try.ntmps5
  go_wp2_with (first
    | (go_at_call 10; refine (packs_any _).mono ?_; rintro e w1 ⟨rfl, hb1⟩; have ALLF : Hid (∀ W, Below w1.heap.size w1 W → Blk W w.heap.size 28 M ∧ Blk W (w.heap.size + 1) 28 M' ∧ Below w.heap.size w W ∧ RdR W (fun b => b < W.heap.size) r d i l ∧ RdR W (fun b => b < W.heap.size) r' d' i' l' ∧ RdB W (fun b => b < W.heap.size) (.slice A LB c) bb) := Lib.hid (HALL.out w1 hb1); clear hb1)
    | (guard_target = wpList _ _ _ _ _ _; refine wpList_load_row rfl 28 _ rfl (w.heap.size) rfl 28 M (0, 0) _ ((ALLF.out w1 (Below.refl _ _)).1) Try.underlying28 rfl (by rw [HSZ.out]; kernel_rfl) ?_)
    | (go_at_call 11; refine (HWM.out w1 (ALLF.out w1 (Below.refl _ _)).2.2.2.1).mono ?_; rintro e w2 ⟨gx, nx, cx, rfl, hn, hown, hb2⟩; subst hn; have hrdx := own_rd hown HLX.out.1.symm (by have := HLX.out; omega); have hv2 : Below w1.heap.size w1 w2 := hb2; clear hown hb2 HWM)
    | (guard_target = wpList _ _ _ _ _ _; refine wpList_load_row rfl 28 _ rfl (w.heap.size + 1) rfl 28 M' (0, 0) _ ((ALLF.out w2 hv2).2.1) Try.underlying28 rfl (by rw [HSZ2.out]; kernel_rfl) ?_)
    | (go_at_call 11; refine (HWN.out w2 (ALLF.out w2 hv2).2.2.2.2.1).mono ?_; rintro e w3 ⟨gy, ny, cy, rfl, hn, hown, hb3⟩; subst hn; have hrdy := own_rd hown HLY.out.1.symm (by have := HLY.out; omega); have hv3 := hv2.trans (hb3.mono hv2.size); have hrdx3 := (hrdx.kept fun a x ha h => (hb3.cell (p := a) ha.2).trans h).mono (ok' := fun b => b < w3.heap.size) (fun b hb => Nat.lt_of_lt_of_le hb.2 hb3.size); clear hown hb3 hv2 hrdx HWN)
    | (go_at_call 13; refine (HRX.out _ _ _ hrdx3).mono ?_; rintro e w4 ⟨⟨d2, i2, l2, rfl, hR4⟩, hb4⟩; have hv4 := hv3.trans (hb4.mono hv3.size); have ha2 := msg_all hR4; have hs2 : (msgA r2 d2 i2 l2).size = 41 := arr_size _ _; have HS2 := Lib.hid (HSX.out d2 i2 l2); have HR4 := Lib.hid hR4; have hrdx4 := (hrdx3.kept fun a x ha h => (hb4.cell (p := a) ha).trans h).mono (ok' := fun b => b < w4.heap.size) (fun b hb => Nat.lt_of_lt_of_le hb hb4.size); have hrdy4 := (hrdy.kept fun a x ha h => (hb4.cell (p := a) ha.2).trans h).mono (ok' := fun b => b < w4.heap.size) (fun b hb => Nat.lt_of_lt_of_le hb.2 hb4.size); clear hrdy; generalize msgA r2 d2 i2 l2 = M2 at hs2 ha2 HS2 ⊢; clear hR4 hb4 hv3 hrdx3 HRX HSX)
    | (guard_target = wpList _ _ _ _ _ _; refine wpList_store_arrW rfl 28 _ _ rfl w4.heap.size M2 rfl rfl 28 _ (Blk.new _ _ _) (by rw [hs2]; kernel_rfl) (by rw [hs2]; rfl) ha2 ?_; intro W9 hS9 hz9 hb9 ho9; have old : ∀ b, b < w4.heap.size → W9.heap[b]? = w4.heap[b]? := fun b hb => (ho9 b (by omega)).trans (Below.heap_alloc w4 _ b hb); have hv9 := hv4.trans ((((Below.refl _ w4).alloc (Nat.le_refl _) _).trans hb9).mono hv4.size); have hR9 := (HR4.out.kept (W' := W9) fun a x ha h => (World.cell?_of_block (old a.block ha.2)).trans h).mono (ok' := fun b => b < W9.heap.size) (fun b hb => by have := hb.2; rw [hz9]; simp; omega); have hz9' : w4.heap.size ≤ W9.heap.size := Nat.le_trans (by simp) (Nat.le_of_eq hz9.symm); have hrdx9 := (hrdx4.kept (W' := W9) fun a x ha h => (World.cell?_of_block (old a.block ha)).trans h).mono (ok' := fun b => b < W9.heap.size) (fun b hb => Nat.lt_of_lt_of_le hb hz9'); have hrdy9 := (hrdy4.kept (W' := W9) fun a x ha h => (World.cell?_of_block (old a.block ha)).trans h).mono (ok' := fun b => b < W9.heap.size) (fun b hb => Nat.lt_of_lt_of_le hb hz9'); clear hrdy4; have HSM := Lib.hid (HS2.out W9 hR9 (ALLF.out W9 hv9).2.2.2.1); have HV9 := Lib.hid hv9; have HX9 := Lib.hid hrdx9; have HY9 := Lib.hid hrdy9; clear hrdy9; clear old hR9 hz9 hz9' hb9 ho9 hv4 hrdx4 hrdx9 hv9)
    | (guard_target = wpList _ _ _ _ _ _; refine wpList_load_blkG (by rfl) 28 _ rfl (w4.heap.size) rfl 28 M2 _ (hS9) Try.underlying28 rfl (by rw [hs2]; kernel_rfl) ?_)
    | (guard_target = wpList _ _ _ _ _ _; refine wpList_load_blkG (by rfl) 28 _ rfl (w.heap.size) rfl 28 M _ ((ALLF.out W9 HV9.out).1) Try.underlying28 rfl (by rw [HSZ.out]; kernel_rfl) ?_)
    | (go_at_call 15; refine HSM.out.mono ?_; rintro e w5 ⟨rfl, hb5⟩; have hv5 := HV9.out.trans (hb5.mono HV9.out.size); have HV5 := Lib.hid hv5; have HX5 := Lib.hid ((HX9.out.kept fun a x ha h => (hb5.cell (p := a) ha).trans h).mono (ok' := fun b => b < w5.heap.size) (fun b hb => Nat.lt_of_lt_of_le hb hb5.size)); have HY5 := Lib.hid ((HY9.out.kept fun a x ha h => (hb5.cell (p := a) ha).trans h).mono (ok' := fun b => b < w5.heap.size) (fun b hb => Nat.lt_of_lt_of_le hb hb5.size)); clear hb5 hv5 hS9 HSM))
  have q : Below w5.heap.size w5 w5.drew := (Below.refl _ _).drew
  have ALL9 : Hid (∀ W', Below w5.heap.size w5 W' → (fun W' => RdB W' (fun b => b < w5.heap.size) (.slice (some ⟨gx, 0, none⟩) nx cx) bx ∧ RdB W' (fun b => b < w5.heap.size) (.slice (some ⟨gy, 0, none⟩) ny cy) by_ ∧ Blk W' w.heap.size 28 M ∧ Blk W' (w.heap.size + 1) 28 M') W') := Lib.hid fun W' hb' => ⟨HX5.out.kept fun a x ha h => (hb'.cell (p := a) ha).trans h, HY5.out.kept fun a x ha h => (hb'.cell (p := a) ha).trans h, (ALLF.out W' (HV5.out.trans (hb'.mono HV5.out.size))).1, (ALLF.out W' (HV5.out.trans (hb'.mono HV5.out.size))).2.1⟩
  refine wp_region_held_drew (S := fun W' => RdB W' (fun b => b < w5.heap.size) (.slice (some ⟨gx, 0, none⟩) nx cx) bx ∧ RdB W' (fun b => b < w5.heap.size) (.slice (some ⟨gy, 0, none⟩) ny cy) by_ ∧ Blk W' w.heap.size 28 M ∧ Blk W' (w.heap.size + 1) 28 M') (by kernel_rfl) ?_ (fun hHeld => ?_)
  · exact ALL9.out _ q
  refine wpAnyH_take (i := 0) (oi := ⟨some 44, _, _, _, _, _⟩) (v := ?_) rfl (by kernel_rfl) (by kernel_rfl) (by kernel_rfl) (fun _ _ _ h => h) (Or.inl ⟨by rfl, ?_⟩) (by assumption) ?_
  rotate_left
  · intro w hSw; (try dsimp only at hSw); go_simp; try (with_reducible rfl)
  rotate_left 0
  try simp only [Act.put, List.setIfInBounds_toArray, List.set_cons_zero, List.set_cons_succ]
  refine wpAnyH_take (i := 1) (oi := ⟨some 45, _, _, _, _, _⟩) (v := ?_) rfl (by kernel_rfl) (by kernel_rfl) (by kernel_rfl) (fun _ _ _ h => h) (Or.inl ⟨by rfl, ?_⟩) (by assumption) ?_
  rotate_left
  · intro w hSw; (try dsimp only at hSw); go_simp; try (with_reducible rfl)
  rotate_left 0
  try simp only [Act.put, List.setIfInBounds_toArray, List.set_cons_zero, List.set_cons_succ]
  refine wpAnyH_take (i := 2) (oi := ⟨some 46, _, _, _, _, _⟩) (v := ?_) rfl (by kernel_rfl) (by kernel_rfl) (by kernel_rfl) (fun _ _ _ h => h) (Or.inl ⟨by rfl, ?_⟩) (by assumption) ?_
  rotate_left
  · intro w hSw; (try dsimp only at hSw); go_simp; try (with_reducible rfl)
  rotate_left 0
  try simp only [Act.put, List.setIfInBounds_toArray, List.set_cons_zero, List.set_cons_succ]
  refine wpAnyH_take (i := 3) (oi := ⟨some 47, _, _, _, _, _⟩) (v := ?_) rfl (by kernel_rfl) (by kernel_rfl) (by kernel_rfl) (fun _ _ _ h => h) (Or.inl ⟨by rfl, ?_⟩) (by assumption) ?_
  rotate_left
  · intro w hSw; (try dsimp only at hSw); go_simp; try (with_reducible rfl)
  rotate_left 0
  try simp only [Act.put, List.setIfInBounds_toArray, List.set_cons_zero, List.set_cons_succ]
  refine wpAnyH_take (i := 4) (oi := ⟨some 48, _, _, _, _, _⟩) (v := .string ⟨bx.toArray⟩) rfl (by kernel_rfl) (by kernel_rfl) (by kernel_rfl) (fun _ _ _ h => h) (Or.inl ⟨by rfl, ?_⟩) (by assumption) ?_
  · intro w' hSw; have hcv := str_rd (hSw.1); (try dsimp only at hSw); go_simp
  try simp only [Act.put, List.setIfInBounds_toArray, List.set_cons_zero, List.set_cons_succ]
  refine wpAnyH_take (i := 5) (oi := ⟨some 49, _, _, _, _, _⟩) (v := ?_) rfl (by kernel_rfl) (by kernel_rfl) (by kernel_rfl) (fun _ _ _ h => h) (Or.inl ⟨by rfl, ?_⟩) (by assumption) ?_
  rotate_left
  · intro w hSw; (try dsimp only at hSw); go_simp; try (with_reducible rfl)
  rotate_left 0
  try simp only [Act.put, List.setIfInBounds_toArray, List.set_cons_zero, List.set_cons_succ]
  refine wpAnyH_take (i := 6) (oi := ⟨some 50, _, _, _, _, _⟩) (v := .string ⟨by_.toArray⟩) rfl (by kernel_rfl) (by kernel_rfl) (by kernel_rfl) (fun _ _ _ h => h) (Or.inl ⟨by rfl, ?_⟩) (by assumption) ?_
  · intro w' hSw; have hcv := str_rd (hSw.2.1); (try dsimp only at hSw); go_simp
  try simp only [Act.put, List.setIfInBounds_toArray, List.set_cons_zero, List.set_cons_succ]
  refine wpAnyH_take (i := 7) (oi := ⟨some 51, _, _, _, _, _⟩) (v := .bool β) rfl (by kernel_rfl) (by kernel_rfl) (by kernel_rfl) (fun _ _ _ h => h) (yieldsIf_bin (by rfl) .eql 9 _ _ _ rfl (.string ⟨bx.toArray⟩) (.string ⟨by_.toArray⟩) rfl rfl _ (fun _ => rfl) HEQ.out) (by assumption) ?_
  try simp only [Act.put, List.setIfInBounds_toArray, List.set_cons_zero, List.set_cons_succ]
  refine wpAnyH_take (i := 8) (oi := ⟨some 52, _, _, _, _, _⟩) (v := .agg M) rfl (by kernel_rfl) (by kernel_rfl) (by kernel_rfl) (fun _ _ _ h => h) (yieldsIf_load_blk (by rfl) _ _ rfl (w.heap.size) rfl 28 M _ (fun _ hS => hS.2.2.1) Try.underlying28 rfl (by rw [HSZ.out]; kernel_rfl)) (by assumption) ?_
  try simp only [Act.put, List.setIfInBounds_toArray, List.set_cons_zero, List.set_cons_succ]
  refine wpAnyH_take (i := 9) (oi := ⟨some 53, _, _, _, _, _⟩) (v := .agg M') rfl (by kernel_rfl) (by kernel_rfl) (by kernel_rfl) (fun _ _ _ h => h) (yieldsIf_load_blk (by rfl) _ _ rfl (w.heap.size + 1) rfl 28 M' _ (fun _ hS => hS.2.2.2) Try.underlying28 rfl (by rw [HSZ2.out]; kernel_rfl)) (by assumption) ?_
  try simp only [Act.put, List.setIfInBounds_toArray, List.set_cons_zero, List.set_cons_succ]
  refine wpAnyH_ready (rs := [10]) (by kernel_rfl) (by simp) ?_
  refine AllReadyH.cons (o := ⟨some 54, _, _, _, _, _⟩) rfl (fun K hK => ?_) AllReadyH.nil
  (try rw [if_pos (by rfl)])
  go_simp
  refine (HSN.out _ (ALLF.out _ (HV5.out.trans (q.mono HV5.out.size))).2.2.2.1 (ALLF.out _ (HV5.out.trans (q.mono HV5.out.size))).2.2.2.2.1).mono ?_
  rintro e w6 ⟨rfl, hb6⟩
  have q6 := Kp.call q hb6
  try dsimp only
  refine hK.out _ _ ?_ (fun hHeld => ?_)
  · exact ALL9.out _ q6
  clear hK K
  try simp only [Act.put, List.setIfInBounds_toArray, List.set_cons_zero, List.set_cons_succ]
  refine wpAnyH_take (i := 11) (oi := ⟨some 55, _, _, _, _, _⟩) (v := .bool false) rfl (by kernel_rfl) (by kernel_rfl) (by kernel_rfl) (fun _ _ _ h => h) (yieldsIf_bin (by rfl) .neq 4 _ _ _ rfl (.bool β) (.bool β) rfl rfl _ (fun _ => rfl) (neq_bool β)) (by assumption) ?_
  try simp only [Act.put, List.setIfInBounds_toArray, List.set_cons_zero, List.set_cons_succ]
  refine wpAnyH_take (i := 12) (oi := ⟨some 56, _, _, _, _, _⟩) (v := ?_) rfl (by kernel_rfl) (by kernel_rfl) (by kernel_rfl) (fun _ _ _ h => h) (Or.inl ⟨by rfl, ?_⟩) (by assumption) ?_
  rotate_left
  · intro w hSw; (try dsimp only at hSw); go_simp; try (with_reducible rfl)
  rotate_left 0
  try simp only [Act.put, List.setIfInBounds_toArray, List.set_cons_zero, List.set_cons_succ]
  refine wpAnyH_done (by kernel_rfl) ?_ _
  clear hHeld ALL9
  have HV6 := Lib.hid (HV5.out.trans (q6.mono HV5.out.size))
  clear q q6 hb6
  go_wp2_with (first
    | (go_at_call 13; refine (HRB.out _ _ _ (ALLF.out w6 HV6.out).2.2.2.2.2).mono ?_; rintro e w7 ⟨⟨d3, i3, l3, rfl, hR7⟩, hb7⟩; have hv7 := HV6.out.trans (hb7.mono HV6.out.size); have ha3 := msg_all hR7; have hs3 : (msgA r3 d3 i3 l3).size = 41 := arr_size _ _; have HW3 := Lib.hid (HWB.out d3 i3 l3); have HR7 := Lib.hid hR7; generalize msgA r3 d3 i3 l3 = M3 at hs3 ha3 HW3 ⊢; clear hR7 hb7)
    | (guard_target = wpList _ _ _ _ _ _; refine wpList_store_arrW rfl 28 _ _ rfl w7.heap.size M3 rfl rfl 28 _ (Blk.new _ _ _) (by rw [hs3]; kernel_rfl) (by rw [hs3]; rfl) ha3 ?_; intro W8 hS8 hz8 hb8 ho8; have old : ∀ b, b < w7.heap.size → W8.heap[b]? = w7.heap[b]? := fun b hb => (ho8 b (by omega)).trans (Below.heap_alloc w7 _ b hb); have hv8 := hv7.trans ((((Below.refl _ w7).alloc (Nat.le_refl _) _).trans hb8).mono hv7.size); have hR8 := (HR7.out.kept (W' := W8) fun a x ha h => (World.cell?_of_block (old a.block ha.2)).trans h).mono (ok' := fun b => b < W8.heap.size) (fun b hb => by have := hb.2; rw [hz8]; simp; omega); have HW8 := Lib.hid (HW3.out W8 hR8); have HV8 := Lib.hid hv8; clear old hR8 hz8 hb8 ho8 hv7 hv8)
    | (guard_target = wpList _ _ _ _ _ _; refine wpList_load_row rfl 28 _ rfl (w7.heap.size) rfl 28 M3 (0, 0) _ (hS8) Try.underlying28 rfl (by rw [hs3]; kernel_rfl) ?_)
    | (go_at_call 11; refine HW8.out.mono ?_; rintro e w10 ⟨gz, nz, cz, rfl, hn, hown, hb10⟩; have hv10 := HV8.out.trans (hb10.mono HV8.out.size); have hcv1 := str_rd (own_rd hown (hn.trans HLZ.out.1.symm) (by have := HLZ.out; omega)); have hcv2 := str_rd (ALLF.out w10 hv10).2.2.2.2.2; have HEND := Lib.hid (ALLF.out w10 hv10).2.2.1; clear hn hown hb10 hv10 hS8))
  go_ret
  exact ⟨rfl, HEND.out⟩
open Classical in
set_option maxRecDepth 100000 in
set_option maxHeartbeats 8000000 in
theorem one_yyn (r r' : Raw) (d i l d' i' l' : Value) (A : Option Addr) (c : Nat) (bb : List UInt8) (w : World) (hr : RdR w (fun b => b < w.heap.size) r d i l) (hr' : RdR w (fun b => b < w.heap.size) r' d' i' l') (hb : RdB w (fun b => b < w.heap.size) (.slice A bb.length c) bb) (hf : r.Fit) (hf' : r'.Fit) (k2 : Nat) (hq : readP bb = .error k2) :
    Calls Try.prog 5 #[.agg (msgA r d i l), .agg (msgA r' d' i' l'), .slice A bb.length c] w fun e w' => e = .returned (.bool true) ∧ Below w.heap.size w w' := by
  have HALL : Hid (∀ w1, Below ((w.alloc (.cells (msgA r d i l) 28)).alloc (.cells (msgA r' d' i' l') 28)).heap.size ((w.alloc (.cells (msgA r d i l) 28)).alloc (.cells (msgA r' d' i' l') 28)) w1 → ∀ W, Below w1.heap.size w1 W → Blk W w.heap.size 28 (msgA r d i l) ∧ Blk W (w.heap.size + 1) 28 (msgA r' d' i' l') ∧ Below w.heap.size w W ∧ RdR W (fun b => b < W.heap.size) r d i l ∧ RdR W (fun b => b < W.heap.size) r' d' i' l' ∧ RdB W (fun b => b < W.heap.size) (.slice A bb.length c) bb) := Lib.hid fun w1 h1 W h2 => by
    have h12 := h1.trans (h2.mono h1.size)
    have hw : Below w.heap.size w W := (((Below.refl _ w).alloc (Nat.le_refl _) _).alloc (by simp) _).trans (h12.mono (by simp; omega))
    have b1 : Blk ((w.alloc (.cells (msgA r d i l) 28)).alloc (.cells (msgA r' d' i' l') 28)) w.heap.size 28 (msgA r d i l) := (Blk.new _ _ _).alloc _
    have b2 : Blk ((w.alloc (.cells (msgA r d i l) 28)).alloc (.cells (msgA r' d' i' l') 28)) (w.heap.size + 1) 28 (msgA r' d' i' l') := Blk.newAt _ _ (by simp) rfl
    exact ⟨b1.below h12 b1.lt, b2.below h12 b2.lt, hw, (hr.below hw).mono fun b hb => Nat.lt_of_lt_of_le hb hw.size, (hr'.below hw).mono fun b hb => Nat.lt_of_lt_of_le hb hw.size, (hb.kept fun a x ha h => (hw.cell (p := a) ha).trans h).mono fun b hb => Nat.lt_of_lt_of_le hb hw.size⟩
  have hs : (msgA r d i l).size = 41 := arr_size _ _
  have hs' : (msgA r' d' i' l').size = 41 := arr_size _ _
  have HWM := Lib.hid fun W hR => callsIn_wide.1 (write_ok r hf d i l W hR)
  obtain ⟨r2, hrp, hrm, hrn⟩ := readP_write hf
  have hlk := like_of hrm hrn hf.nn
  have HRX := Lib.hid (read_ok hrp)
  have HSX := Lib.hid fun d2 i2 l2 W hr2 hr1 => same_yes hlk d2 i2 l2 d i l W hr2 hr1
  have hlx := write_len hf.ok
  have hpx := writeM_pos r.m
  have HWN := Lib.hid fun W hR => callsIn_wide.1 (write_ok r' hf' d' i' l' W hR)
  have hly := write_len hf'.ok
  have heq := eql_str (writeM r.m) (writeM r'.m)
  rw [like_eq hf hf'] at heq
  have HSN := Lib.hid fun W hr1 hr2 => same_any r r' d i l d' i' l' W hr1 hr2
  obtain ⟨β, hβ⟩ : ∃ β, decide (r.Like r') = β := ⟨_, rfl⟩
  rw [hβ] at heq HSN
  have HEQ := Lib.hid heq
  have HRB := Lib.hid (read_no hq)
  have HZB := Lib.hid built_msg0
  have hz : (msgA (zeroRaw 0) nilS nilS nilS).size = 41 := arr_size _ _
  have hza : (msgA (zeroRaw 0) nilS nilS nilS).all (·.oneCell') = true := msg_all (zero_rd w (fun _ => False) 0)
  have HSZZ := Lib.hid fun W => same_yes (zero_like 0) nilS nilS nilS nilS nilS nilS W (zero_rd W _ 0) (zero_rd W _ 0)
  obtain ⟨Z, hZ⟩ : ∃ Z, msgA (zeroRaw 0) nilS nilS nilS = Z := ⟨_, rfl⟩
  rw [hZ] at HRB HZB hz hza HSZZ
  have HZS := Lib.hid hz
  have HZA := Lib.hid hza
  obtain ⟨M, hM⟩ : ∃ M, msgA r d i l = M := ⟨_, rfl⟩
  obtain ⟨M', hM'⟩ : ∃ M, msgA r' d' i' l' = M := ⟨_, rfl⟩
  rw [hM] at HALL hs HWM HSX HSN ⊢
  rw [hM'] at HALL hs' HWN HSN ⊢
  obtain ⟨bx, hbx⟩ : ∃ b, writeM r.m = b := ⟨_, rfl⟩
  rw [hbx] at HWM HRX hlx hpx HEQ
  obtain ⟨nx0, hnx⟩ : ∃ n, bx.length = n := ⟨_, rfl⟩
  rw [hnx] at HWM HRX hlx hpx
  have HLX := Lib.hid (And.intro hnx hlx)
  obtain ⟨by_, hby⟩ : ∃ b, writeM r'.m = b := ⟨_, rfl⟩
  rw [hby] at HWN hly HEQ
  obtain ⟨ny0, hny⟩ : ∃ n, by_.length = n := ⟨_, rfl⟩
  rw [hny] at HWN hly
  have HLY := Lib.hid (And.intro hny hly)
  obtain ⟨LB, hLB⟩ : ∃ n, bb.length = n := ⟨_, rfl⟩
  rw [hLB] at HALL HRB ⊢
  have HSZ := Lib.hid hs
  have HSZ2 := Lib.hid hs'
  clear hs hs' hr hr' hb hf hq hf' hrp hrm hrn hlk heq hβ hz hza hZ hM hM' hbx hnx hlx hpx hby hny hly hLB
  go_enter Try.func5, Try.ntmps5
  go_wp2_with (first
    | (go_at_call 10; refine (packs_any _).mono ?_; rintro e w1 ⟨rfl, hb1⟩; have ALLF : Hid (∀ W, Below w1.heap.size w1 W → Blk W w.heap.size 28 M ∧ Blk W (w.heap.size + 1) 28 M' ∧ Below w.heap.size w W ∧ RdR W (fun b => b < W.heap.size) r d i l ∧ RdR W (fun b => b < W.heap.size) r' d' i' l' ∧ RdB W (fun b => b < W.heap.size) (.slice A LB c) bb) := Lib.hid (HALL.out w1 hb1); clear hb1)
    | (guard_target = wpList _ _ _ _ _ _; refine wpList_load_row rfl 28 _ rfl (w.heap.size) rfl 28 M (0, 0) _ ((ALLF.out w1 (Below.refl _ _)).1) Try.underlying28 rfl (by rw [HSZ.out]; kernel_rfl) ?_)
    | (go_at_call 11; refine (HWM.out w1 (ALLF.out w1 (Below.refl _ _)).2.2.2.1).mono ?_; rintro e w2 ⟨gx, nx, cx, rfl, hn, hown, hb2⟩; subst hn; have hrdx := own_rd hown HLX.out.1.symm (by have := HLX.out; omega); have hv2 : Below w1.heap.size w1 w2 := hb2; clear hown hb2 HWM)
    | (guard_target = wpList _ _ _ _ _ _; refine wpList_load_row rfl 28 _ rfl (w.heap.size + 1) rfl 28 M' (0, 0) _ ((ALLF.out w2 hv2).2.1) Try.underlying28 rfl (by rw [HSZ2.out]; kernel_rfl) ?_)
    | (go_at_call 11; refine (HWN.out w2 (ALLF.out w2 hv2).2.2.2.2.1).mono ?_; rintro e w3 ⟨gy, ny, cy, rfl, hn, hown, hb3⟩; subst hn; have hrdy := own_rd hown HLY.out.1.symm (by have := HLY.out; omega); have hv3 := hv2.trans (hb3.mono hv2.size); have hrdx3 := (hrdx.kept fun a x ha h => (hb3.cell (p := a) ha.2).trans h).mono (ok' := fun b => b < w3.heap.size) (fun b hb => Nat.lt_of_lt_of_le hb.2 hb3.size); clear hown hb3 hv2 hrdx HWN)
    | (go_at_call 13; refine (HRX.out _ _ _ hrdx3).mono ?_; rintro e w4 ⟨⟨d2, i2, l2, rfl, hR4⟩, hb4⟩; have hv4 := hv3.trans (hb4.mono hv3.size); have ha2 := msg_all hR4; have hs2 : (msgA r2 d2 i2 l2).size = 41 := arr_size _ _; have HS2 := Lib.hid (HSX.out d2 i2 l2); have HR4 := Lib.hid hR4; have hrdx4 := (hrdx3.kept fun a x ha h => (hb4.cell (p := a) ha).trans h).mono (ok' := fun b => b < w4.heap.size) (fun b hb => Nat.lt_of_lt_of_le hb hb4.size); have hrdy4 := (hrdy.kept fun a x ha h => (hb4.cell (p := a) ha.2).trans h).mono (ok' := fun b => b < w4.heap.size) (fun b hb => Nat.lt_of_lt_of_le hb.2 hb4.size); clear hrdy; generalize msgA r2 d2 i2 l2 = M2 at hs2 ha2 HS2 ⊢; clear hR4 hb4 hv3 hrdx3 HRX HSX)
    | (guard_target = wpList _ _ _ _ _ _; refine wpList_store_arrW rfl 28 _ _ rfl w4.heap.size M2 rfl rfl 28 _ (Blk.new _ _ _) (by rw [hs2]; kernel_rfl) (by rw [hs2]; rfl) ha2 ?_; intro W9 hS9 hz9 hb9 ho9; have old : ∀ b, b < w4.heap.size → W9.heap[b]? = w4.heap[b]? := fun b hb => (ho9 b (by omega)).trans (Below.heap_alloc w4 _ b hb); have hv9 := hv4.trans ((((Below.refl _ w4).alloc (Nat.le_refl _) _).trans hb9).mono hv4.size); have hR9 := (HR4.out.kept (W' := W9) fun a x ha h => (World.cell?_of_block (old a.block ha.2)).trans h).mono (ok' := fun b => b < W9.heap.size) (fun b hb => by have := hb.2; rw [hz9]; simp; omega); have hz9' : w4.heap.size ≤ W9.heap.size := Nat.le_trans (by simp) (Nat.le_of_eq hz9.symm); have hrdx9 := (hrdx4.kept (W' := W9) fun a x ha h => (World.cell?_of_block (old a.block ha)).trans h).mono (ok' := fun b => b < W9.heap.size) (fun b hb => Nat.lt_of_lt_of_le hb hz9'); have hrdy9 := (hrdy4.kept (W' := W9) fun a x ha h => (World.cell?_of_block (old a.block ha)).trans h).mono (ok' := fun b => b < W9.heap.size) (fun b hb => Nat.lt_of_lt_of_le hb hz9'); clear hrdy4; have HSM := Lib.hid (HS2.out W9 hR9 (ALLF.out W9 hv9).2.2.2.1); have HV9 := Lib.hid hv9; have HX9 := Lib.hid hrdx9; have HY9 := Lib.hid hrdy9; clear hrdy9; clear old hR9 hz9 hz9' hb9 ho9 hv4 hrdx4 hrdx9 hv9)
    | (guard_target = wpList _ _ _ _ _ _; refine wpList_load_blkG (by rfl) 28 _ rfl (w4.heap.size) rfl 28 M2 _ (hS9) Try.underlying28 rfl (by rw [hs2]; kernel_rfl) ?_)
    | (guard_target = wpList _ _ _ _ _ _; refine wpList_load_blkG (by rfl) 28 _ rfl (w.heap.size) rfl 28 M _ ((ALLF.out W9 HV9.out).1) Try.underlying28 rfl (by rw [HSZ.out]; kernel_rfl) ?_)
    | (go_at_call 15; refine HSM.out.mono ?_; rintro e w5 ⟨rfl, hb5⟩; have hv5 := HV9.out.trans (hb5.mono HV9.out.size); have HV5 := Lib.hid hv5; have HX5 := Lib.hid ((HX9.out.kept fun a x ha h => (hb5.cell (p := a) ha).trans h).mono (ok' := fun b => b < w5.heap.size) (fun b hb => Nat.lt_of_lt_of_le hb hb5.size)); have HY5 := Lib.hid ((HY9.out.kept fun a x ha h => (hb5.cell (p := a) ha).trans h).mono (ok' := fun b => b < w5.heap.size) (fun b hb => Nat.lt_of_lt_of_le hb hb5.size)); clear hb5 hv5 hS9 HSM))
  have q : Below w5.heap.size w5 w5.drew := (Below.refl _ _).drew
  have ALL9 : Hid (∀ W', Below w5.heap.size w5 W' → (fun W' => RdB W' (fun b => b < w5.heap.size) (.slice (some ⟨gx, 0, none⟩) nx cx) bx ∧ RdB W' (fun b => b < w5.heap.size) (.slice (some ⟨gy, 0, none⟩) ny cy) by_ ∧ Blk W' w.heap.size 28 M ∧ Blk W' (w.heap.size + 1) 28 M') W') := Lib.hid fun W' hb' => ⟨HX5.out.kept fun a x ha h => (hb'.cell (p := a) ha).trans h, HY5.out.kept fun a x ha h => (hb'.cell (p := a) ha).trans h, (ALLF.out W' (HV5.out.trans (hb'.mono HV5.out.size))).1, (ALLF.out W' (HV5.out.trans (hb'.mono HV5.out.size))).2.1⟩
  refine wp_region_held_drew (S := fun W' => RdB W' (fun b => b < w5.heap.size) (.slice (some ⟨gx, 0, none⟩) nx cx) bx ∧ RdB W' (fun b => b < w5.heap.size) (.slice (some ⟨gy, 0, none⟩) ny cy) by_ ∧ Blk W' w.heap.size 28 M ∧ Blk W' (w.heap.size + 1) 28 M') (by kernel_rfl) ?_ (fun hHeld => ?_)
  · exact ALL9.out _ q
  refine wpAnyH_take (i := 0) (oi := ⟨some 44, _, _, _, _, _⟩) (v := ?_) rfl (by kernel_rfl) (by kernel_rfl) (by kernel_rfl) (fun _ _ _ h => h) (Or.inl ⟨by rfl, ?_⟩) (by assumption) ?_
  rotate_left
  · intro w hSw; (try dsimp only at hSw); go_simp; try (with_reducible rfl)
  rotate_left 0
  try simp only [Act.put, List.setIfInBounds_toArray, List.set_cons_zero, List.set_cons_succ]
  refine wpAnyH_take (i := 1) (oi := ⟨some 45, _, _, _, _, _⟩) (v := ?_) rfl (by kernel_rfl) (by kernel_rfl) (by kernel_rfl) (fun _ _ _ h => h) (Or.inl ⟨by rfl, ?_⟩) (by assumption) ?_
  rotate_left
  · intro w hSw; (try dsimp only at hSw); go_simp; try (with_reducible rfl)
  rotate_left 0
  try simp only [Act.put, List.setIfInBounds_toArray, List.set_cons_zero, List.set_cons_succ]
  refine wpAnyH_take (i := 2) (oi := ⟨some 46, _, _, _, _, _⟩) (v := ?_) rfl (by kernel_rfl) (by kernel_rfl) (by kernel_rfl) (fun _ _ _ h => h) (Or.inl ⟨by rfl, ?_⟩) (by assumption) ?_
  rotate_left
  · intro w hSw; (try dsimp only at hSw); go_simp; try (with_reducible rfl)
  rotate_left 0
  try simp only [Act.put, List.setIfInBounds_toArray, List.set_cons_zero, List.set_cons_succ]
  refine wpAnyH_take (i := 3) (oi := ⟨some 47, _, _, _, _, _⟩) (v := ?_) rfl (by kernel_rfl) (by kernel_rfl) (by kernel_rfl) (fun _ _ _ h => h) (Or.inl ⟨by rfl, ?_⟩) (by assumption) ?_
  rotate_left
  · intro w hSw; (try dsimp only at hSw); go_simp; try (with_reducible rfl)
  rotate_left 0
  try simp only [Act.put, List.setIfInBounds_toArray, List.set_cons_zero, List.set_cons_succ]
  refine wpAnyH_take (i := 4) (oi := ⟨some 48, _, _, _, _, _⟩) (v := .string ⟨bx.toArray⟩) rfl (by kernel_rfl) (by kernel_rfl) (by kernel_rfl) (fun _ _ _ h => h) (Or.inl ⟨by rfl, ?_⟩) (by assumption) ?_
  · intro w' hSw; have hcv := str_rd (hSw.1); (try dsimp only at hSw); go_simp
  try simp only [Act.put, List.setIfInBounds_toArray, List.set_cons_zero, List.set_cons_succ]
  refine wpAnyH_take (i := 5) (oi := ⟨some 49, _, _, _, _, _⟩) (v := ?_) rfl (by kernel_rfl) (by kernel_rfl) (by kernel_rfl) (fun _ _ _ h => h) (Or.inl ⟨by rfl, ?_⟩) (by assumption) ?_
  rotate_left
  · intro w hSw; (try dsimp only at hSw); go_simp; try (with_reducible rfl)
  rotate_left 0
  try simp only [Act.put, List.setIfInBounds_toArray, List.set_cons_zero, List.set_cons_succ]
  refine wpAnyH_take (i := 6) (oi := ⟨some 50, _, _, _, _, _⟩) (v := .string ⟨by_.toArray⟩) rfl (by kernel_rfl) (by kernel_rfl) (by kernel_rfl) (fun _ _ _ h => h) (Or.inl ⟨by rfl, ?_⟩) (by assumption) ?_
  · intro w' hSw; have hcv := str_rd (hSw.2.1); (try dsimp only at hSw); go_simp
  try simp only [Act.put, List.setIfInBounds_toArray, List.set_cons_zero, List.set_cons_succ]
  refine wpAnyH_take (i := 7) (oi := ⟨some 51, _, _, _, _, _⟩) (v := .bool β) rfl (by kernel_rfl) (by kernel_rfl) (by kernel_rfl) (fun _ _ _ h => h) (yieldsIf_bin (by rfl) .eql 9 _ _ _ rfl (.string ⟨bx.toArray⟩) (.string ⟨by_.toArray⟩) rfl rfl _ (fun _ => rfl) HEQ.out) (by assumption) ?_
  try simp only [Act.put, List.setIfInBounds_toArray, List.set_cons_zero, List.set_cons_succ]
  refine wpAnyH_take (i := 8) (oi := ⟨some 52, _, _, _, _, _⟩) (v := .agg M) rfl (by kernel_rfl) (by kernel_rfl) (by kernel_rfl) (fun _ _ _ h => h) (yieldsIf_load_blk (by rfl) _ _ rfl (w.heap.size) rfl 28 M _ (fun _ hS => hS.2.2.1) Try.underlying28 rfl (by rw [HSZ.out]; kernel_rfl)) (by assumption) ?_
  try simp only [Act.put, List.setIfInBounds_toArray, List.set_cons_zero, List.set_cons_succ]
  refine wpAnyH_take (i := 9) (oi := ⟨some 53, _, _, _, _, _⟩) (v := .agg M') rfl (by kernel_rfl) (by kernel_rfl) (by kernel_rfl) (fun _ _ _ h => h) (yieldsIf_load_blk (by rfl) _ _ rfl (w.heap.size + 1) rfl 28 M' _ (fun _ hS => hS.2.2.2) Try.underlying28 rfl (by rw [HSZ2.out]; kernel_rfl)) (by assumption) ?_
  try simp only [Act.put, List.setIfInBounds_toArray, List.set_cons_zero, List.set_cons_succ]
  refine wpAnyH_ready (rs := [10]) (by kernel_rfl) (by simp) ?_
  refine AllReadyH.cons (o := ⟨some 54, _, _, _, _, _⟩) rfl (fun K hK => ?_) AllReadyH.nil
  (try rw [if_pos (by rfl)])
  go_simp
  refine (HSN.out _ (ALLF.out _ (HV5.out.trans (q.mono HV5.out.size))).2.2.2.1 (ALLF.out _ (HV5.out.trans (q.mono HV5.out.size))).2.2.2.2.1).mono ?_
  rintro e w6 ⟨rfl, hb6⟩
  have q6 := Kp.call q hb6
  try dsimp only
  refine hK.out _ _ ?_ (fun hHeld => ?_)
  · exact ALL9.out _ q6
  clear hK K
  try simp only [Act.put, List.setIfInBounds_toArray, List.set_cons_zero, List.set_cons_succ]
  refine wpAnyH_take (i := 11) (oi := ⟨some 55, _, _, _, _, _⟩) (v := .bool false) rfl (by kernel_rfl) (by kernel_rfl) (by kernel_rfl) (fun _ _ _ h => h) (yieldsIf_bin (by rfl) .neq 4 _ _ _ rfl (.bool β) (.bool β) rfl rfl _ (fun _ => rfl) (neq_bool β)) (by assumption) ?_
  try simp only [Act.put, List.setIfInBounds_toArray, List.set_cons_zero, List.set_cons_succ]
  refine wpAnyH_take (i := 12) (oi := ⟨some 56, _, _, _, _, _⟩) (v := ?_) rfl (by kernel_rfl) (by kernel_rfl) (by kernel_rfl) (fun _ _ _ h => h) (Or.inl ⟨by rfl, ?_⟩) (by assumption) ?_
  rotate_left
  · intro w hSw; (try dsimp only at hSw); go_simp; try (with_reducible rfl)
  rotate_left 0
  try simp only [Act.put, List.setIfInBounds_toArray, List.set_cons_zero, List.set_cons_succ]
  refine wpAnyH_done (by kernel_rfl) ?_ _
  clear hHeld ALL9
  have HV6 := Lib.hid (HV5.out.trans (q6.mono HV5.out.size))
  clear q q6 hb6
  go_wp2_with (first
    | (go_at_call 13; refine (HRB.out _ _ _ (ALLF.out w6 HV6.out).2.2.2.2.2).mono ?_; rintro e w7 ⟨⟨rfl, hk2⟩, hb7⟩; have hq1 : ¬ (k2 : Int) = 0 := (by omega); have hq2 : ((k2 : Int) != 0) = true := (by simpa using hq1); have hv7 := HV6.out.trans (hb7.mono HV6.out.size); clear hk2 hb7)
    | (guard_target = wpList _ _ _ _ _ _; refine wpList_store_arrW rfl 28 _ _ rfl w7.heap.size Z rfl rfl 28 _ (Blk.new _ _ _) (by rw [HZS.out]; kernel_rfl) (by rw [HZS.out]; rfl) HZA.out ?_; intro W8 hS8 hz8 hb8 ho8; have HV8 := Lib.hid (hv7.trans ((((Below.refl _ w7).alloc (Nat.le_refl _) _).trans hb8).mono hv7.size)); clear hz8 hb8 ho8 hv7)
    | (guard_target = wpList _ _ _ _ _ _; refine wpList_load_row rfl 28 _ rfl (w7.heap.size) rfl 28 Z (0, 0) _ (hS8) Try.underlying28 rfl (by rw [HZS.out]; kernel_rfl) ?_)
    | (guard_target = wpList _ _ _ (Oper.mk _ (.build _ _) _ _ _ _ :: _) _ _; refine wpList_build rfl 28 _ rfl (by kernel_rfl) ?_; simp only [List.map_toArray, List.map_nil]; rw [HZB.out])
    | (go_at_call 15; refine (HSZZ.out _).mono ?_; rintro e w10 ⟨rfl, hb10⟩; have HEND := Lib.hid (ALLF.out w10 (HV8.out.trans (hb10.mono HV8.out.size))).2.2.1; clear hb10 hS8))
  go_ret
  exact ⟨rfl, HEND.out⟩
set_option maxRecDepth 100000 in
set_option maxHeartbeats 8000000 in
theorem one_yny (r r' : Raw) (d i l d' i' l' : Value) (A : Option Addr) (c : Nat) (bb : List UInt8) (w : World) (hr : RdR w (fun b => b < w.heap.size) r d i l) (hr' : RdR w (fun b => b < w.heap.size) r' d' i' l') (hb : RdB w (fun b => b < w.heap.size) (.slice A bb.length c) bb) (hf : r.Fit) (hf' : ¬ r'.Fit) (r3 : Raw) (hq : readP bb = .ok r3) :
    Calls Try.prog 5 #[.agg (msgA r d i l), .agg (msgA r' d' i' l'), .slice A bb.length c] w fun e w' => e = .returned (.bool true) ∧ Below w.heap.size w w' := by
  have HALL : Hid (∀ w1, Below ((w.alloc (.cells (msgA r d i l) 28)).alloc (.cells (msgA r' d' i' l') 28)).heap.size ((w.alloc (.cells (msgA r d i l) 28)).alloc (.cells (msgA r' d' i' l') 28)) w1 → ∀ W, Below w1.heap.size w1 W → Blk W w.heap.size 28 (msgA r d i l) ∧ Blk W (w.heap.size + 1) 28 (msgA r' d' i' l') ∧ Below w.heap.size w W ∧ RdR W (fun b => b < W.heap.size) r d i l ∧ RdR W (fun b => b < W.heap.size) r' d' i' l' ∧ RdB W (fun b => b < W.heap.size) (.slice A bb.length c) bb) := Lib.hid fun w1 h1 W h2 => by
    have h12 := h1.trans (h2.mono h1.size)
    have hw : Below w.heap.size w W := (((Below.refl _ w).alloc (Nat.le_refl _) _).alloc (by simp) _).trans (h12.mono (by simp; omega))
    have b1 : Blk ((w.alloc (.cells (msgA r d i l) 28)).alloc (.cells (msgA r' d' i' l') 28)) w.heap.size 28 (msgA r d i l) := (Blk.new _ _ _).alloc _
    have b2 : Blk ((w.alloc (.cells (msgA r d i l) 28)).alloc (.cells (msgA r' d' i' l') 28)) (w.heap.size + 1) 28 (msgA r' d' i' l') := Blk.newAt _ _ (by simp) rfl
    exact ⟨b1.below h12 b1.lt, b2.below h12 b2.lt, hw, (hr.below hw).mono fun b hb => Nat.lt_of_lt_of_le hb hw.size, (hr'.below hw).mono fun b hb => Nat.lt_of_lt_of_le hb hw.size, (hb.kept fun a x ha h => (hw.cell (p := a) ha).trans h).mono fun b hb => Nat.lt_of_lt_of_le hb hw.size⟩
  have hs : (msgA r d i l).size = 41 := arr_size _ _
  have hs' : (msgA r' d' i' l').size = 41 := arr_size _ _
  have HWM := Lib.hid fun W hR => callsIn_wide.1 (write_ok r hf d i l W hR)
  obtain ⟨r2, hrp, hrm, hrn⟩ := readP_write hf
  have hlk := like_of hrm hrn hf.nn
  have HRX := Lib.hid (read_ok hrp)
  have HSX := Lib.hid fun d2 i2 l2 W hr2 hr1 => same_yes hlk d2 i2 l2 d i l W hr2 hr1
  have hlx := write_len hf.ok
  have hpx := writeM_pos r.m
  have HWN := Lib.hid fun W hR => write_no r' hf' d' i' l' W hR
  have hk0' : r'.check ≠ 0 := fun h => hf' (r'.fit_iff.1 h)
  obtain ⟨ky, hky⟩ : ∃ k, r'.check = k := ⟨_, rfl⟩
  rw [hky] at HWN hk0'
  have hy1 : ¬ (ky : Int) = 0 := by omega
  have hy2 : ((ky : Int) == 0) = false := by simpa using hy1
  have HRB := Lib.hid (read_ok hq)
  obtain ⟨hwb, hf3⟩ := readP_back hq
  have HWB := Lib.hid fun d3 i3 l3 W hR => callsIn_wide.1 (write_ok r3 hf3 d3 i3 l3 W hR)
  have hlz := write_len hf3.ok
  rw [hwb] at HWB hlz
  obtain ⟨M, hM⟩ : ∃ M, msgA r d i l = M := ⟨_, rfl⟩
  obtain ⟨M', hM'⟩ : ∃ M, msgA r' d' i' l' = M := ⟨_, rfl⟩
  rw [hM] at HALL hs HWM HSX ⊢
  rw [hM'] at HALL hs' HWN ⊢
  obtain ⟨bx, hbx⟩ : ∃ b, writeM r.m = b := ⟨_, rfl⟩
  rw [hbx] at HWM HRX hlx hpx
  obtain ⟨nx0, hnx⟩ : ∃ n, bx.length = n := ⟨_, rfl⟩
  rw [hnx] at HWM HRX hlx hpx
  have HLX := Lib.hid (And.intro hnx hlx)
  obtain ⟨LB, hLB⟩ : ∃ n, bb.length = n := ⟨_, rfl⟩
  rw [hLB] at HALL HRB HWB hlz ⊢
  have HLZ := Lib.hid (And.intro hLB hlz)
  have HSZ := Lib.hid hs
  have HSZ2 := Lib.hid hs'
  clear hs hs' hr hr' hb hf hq hf' hrp hrm hrn hlk hk0' hky hwb hf3 hM hM' hbx hnx hlx hpx hlz hLB
  go_enter Try.func5, Try.ntmps5
  go_wp2_with (first
    | (go_at_call 10; refine (packs_any _).mono ?_; rintro e w1 ⟨rfl, hb1⟩; have ALLF : Hid (∀ W, Below w1.heap.size w1 W → Blk W w.heap.size 28 M ∧ Blk W (w.heap.size + 1) 28 M' ∧ Below w.heap.size w W ∧ RdR W (fun b => b < W.heap.size) r d i l ∧ RdR W (fun b => b < W.heap.size) r' d' i' l' ∧ RdB W (fun b => b < W.heap.size) (.slice A LB c) bb) := Lib.hid (HALL.out w1 hb1); clear hb1)
    | (guard_target = wpList _ _ _ _ _ _; refine wpList_load_row rfl 28 _ rfl (w.heap.size) rfl 28 M (0, 0) _ ((ALLF.out w1 (Below.refl _ _)).1) Try.underlying28 rfl (by rw [HSZ.out]; kernel_rfl) ?_)
    | (go_at_call 11; refine (HWM.out w1 (ALLF.out w1 (Below.refl _ _)).2.2.2.1).mono ?_; rintro e w2 ⟨gx, nx, cx, rfl, hn, hown, hb2⟩; subst hn; have hrdx := own_rd hown HLX.out.1.symm (by have := HLX.out; omega); have hv2 : Below w1.heap.size w1 w2 := hb2; clear hown hb2 HWM)
    | (guard_target = wpList _ _ _ _ _ _; refine wpList_load_row rfl 28 _ rfl (w.heap.size + 1) rfl 28 M' (0, 0) _ ((ALLF.out w2 hv2).2.1) Try.underlying28 rfl (by rw [HSZ2.out]; kernel_rfl) ?_)
    | (go_at_call 11; refine (HWN.out w2 (ALLF.out w2 hv2).2.2.2.2.1).mono ?_; rintro e w3 ⟨rfl, hb3⟩; have hv3 := hv2.trans (hb3.mono hv2.size); have hrdx3 := (hrdx.kept fun a x ha h => (hb3.cell (p := a) ha.2).trans h).mono (ok' := fun b => b < w3.heap.size) (fun b hb => Nat.lt_of_lt_of_le hb.2 hb3.size); clear hb3 hv2 hrdx HWN)
    | (go_at_call 13; refine (HRX.out _ _ _ hrdx3).mono ?_; rintro e w4 ⟨⟨d2, i2, l2, rfl, hR4⟩, hb4⟩; have hv4 := hv3.trans (hb4.mono hv3.size); have ha2 := msg_all hR4; have hs2 : (msgA r2 d2 i2 l2).size = 41 := arr_size _ _; have HS2 := Lib.hid (HSX.out d2 i2 l2); have HR4 := Lib.hid hR4; have hrdx4 := (hrdx3.kept fun a x ha h => (hb4.cell (p := a) ha).trans h).mono (ok' := fun b => b < w4.heap.size) (fun b hb => Nat.lt_of_lt_of_le hb hb4.size); generalize msgA r2 d2 i2 l2 = M2 at hs2 ha2 HS2 ⊢; clear hR4 hb4 hv3 hrdx3 HRX HSX)
    | (guard_target = wpList _ _ _ _ _ _; refine wpList_store_arrW rfl 28 _ _ rfl w4.heap.size M2 rfl rfl 28 _ (Blk.new _ _ _) (by rw [hs2]; kernel_rfl) (by rw [hs2]; rfl) ha2 ?_; intro W9 hS9 hz9 hb9 ho9; have old : ∀ b, b < w4.heap.size → W9.heap[b]? = w4.heap[b]? := fun b hb => (ho9 b (by omega)).trans (Below.heap_alloc w4 _ b hb); have hv9 := hv4.trans ((((Below.refl _ w4).alloc (Nat.le_refl _) _).trans hb9).mono hv4.size); have hR9 := (HR4.out.kept (W' := W9) fun a x ha h => (World.cell?_of_block (old a.block ha.2)).trans h).mono (ok' := fun b => b < W9.heap.size) (fun b hb => by have := hb.2; rw [hz9]; simp; omega); have hz9' : w4.heap.size ≤ W9.heap.size := Nat.le_trans (by simp) (Nat.le_of_eq hz9.symm); have hrdx9 := (hrdx4.kept (W' := W9) fun a x ha h => (World.cell?_of_block (old a.block ha)).trans h).mono (ok' := fun b => b < W9.heap.size) (fun b hb => Nat.lt_of_lt_of_le hb hz9'); have HSM := Lib.hid (HS2.out W9 hR9 (ALLF.out W9 hv9).2.2.2.1); have HV9 := Lib.hid hv9; have HX9 := Lib.hid hrdx9; clear old hR9 hz9 hz9' hb9 ho9 hv4 hrdx4 hrdx9 hv9)
    | (guard_target = wpList _ _ _ _ _ _; refine wpList_load_blkG (by rfl) 28 _ rfl (w4.heap.size) rfl 28 M2 _ (hS9) Try.underlying28 rfl (by rw [hs2]; kernel_rfl) ?_)
    | (guard_target = wpList _ _ _ _ _ _; refine wpList_load_blkG (by rfl) 28 _ rfl (w.heap.size) rfl 28 M _ ((ALLF.out W9 HV9.out).1) Try.underlying28 rfl (by rw [HSZ.out]; kernel_rfl) ?_)
    | (go_at_call 15; refine HSM.out.mono ?_; rintro e w5 ⟨rfl, hb5⟩; have hv5 := HV9.out.trans (hb5.mono HV9.out.size); have HV5 := Lib.hid hv5; have HX5 := Lib.hid ((HX9.out.kept fun a x ha h => (hb5.cell (p := a) ha).trans h).mono (ok' := fun b => b < w5.heap.size) (fun b hb => Nat.lt_of_lt_of_le hb hb5.size)); clear hb5 hv5 hS9 HSM))
  have q : Below w5.heap.size w5 w5.drew := (Below.refl _ _).drew
  refine wp_region_held_drew (S := fun _ => True) (by kernel_rfl) ?_ (fun hHeld => ?_)
  · trivial
  refine wpAnyH_take (i := 0) (oi := ⟨some 44, _, _, _, _, _⟩) (v := ?_) rfl (by kernel_rfl) (by kernel_rfl) (by kernel_rfl) (fun _ _ _ h => h) (Or.inl ⟨by rfl, ?_⟩) (by assumption) ?_
  rotate_left
  · intro w hSw; (try dsimp only at hSw); go_simp; try (with_reducible rfl)
  rotate_left 0
  try simp only [Act.put, List.setIfInBounds_toArray, List.set_cons_zero, List.set_cons_succ]
  refine wpAnyH_take (i := 1) (oi := ⟨some 45, _, _, _, _, _⟩) (v := ?_) rfl (by kernel_rfl) (by kernel_rfl) (by kernel_rfl) (fun _ _ _ h => h) (Or.inl ⟨by rfl, ?_⟩) (by assumption) ?_
  rotate_left
  · intro w hSw; (try dsimp only at hSw); go_simp; try (with_reducible rfl)
  rotate_left 0
  try simp only [Act.put, List.setIfInBounds_toArray, List.set_cons_zero, List.set_cons_succ]
  refine wpAnyH_take (i := 2) (oi := ⟨some 46, _, _, _, _, _⟩) (v := ?_) rfl (by kernel_rfl) (by kernel_rfl) (by kernel_rfl) (fun _ _ _ h => h) (Or.inl ⟨by rfl, ?_⟩) (by assumption) ?_
  rotate_left
  · intro w hSw; (try dsimp only at hSw); go_simp; try (with_reducible rfl)
  rotate_left 0
  try simp only [Act.put, List.setIfInBounds_toArray, List.set_cons_zero, List.set_cons_succ]
  refine wpAnyH_take (i := 3) (oi := ⟨some 47, _, _, _, _, _⟩) (v := undef) rfl (by kernel_rfl) (by kernel_rfl) (by kernel_rfl) (fun _ _ _ h => h) (Or.inr ⟨by rfl, rfl⟩) (by assumption) ?_
  try simp only [Act.put, List.setIfInBounds_toArray, List.set_cons_zero, List.set_cons_succ]
  refine wpAnyH_take (i := 4) (oi := ⟨some 48, _, _, _, _, _⟩) (v := undef) rfl (by kernel_rfl) (by kernel_rfl) (by kernel_rfl) (fun _ _ _ h => h) (Or.inr ⟨by rfl, rfl⟩) (by assumption) ?_
  try simp only [Act.put, List.setIfInBounds_toArray, List.set_cons_zero, List.set_cons_succ]
  refine wpAnyH_take (i := 5) (oi := ⟨some 49, _, _, _, _, _⟩) (v := undef) rfl (by kernel_rfl) (by kernel_rfl) (by kernel_rfl) (fun _ _ _ h => h) (Or.inr ⟨by rfl, rfl⟩) (by assumption) ?_
  try simp only [Act.put, List.setIfInBounds_toArray, List.set_cons_zero, List.set_cons_succ]
  refine wpAnyH_take (i := 6) (oi := ⟨some 50, _, _, _, _, _⟩) (v := undef) rfl (by kernel_rfl) (by kernel_rfl) (by kernel_rfl) (fun _ _ _ h => h) (Or.inr ⟨by rfl, rfl⟩) (by assumption) ?_
  try simp only [Act.put, List.setIfInBounds_toArray, List.set_cons_zero, List.set_cons_succ]
  refine wpAnyH_take (i := 7) (oi := ⟨some 51, _, _, _, _, _⟩) (v := undef) rfl (by kernel_rfl) (by kernel_rfl) (by kernel_rfl) (fun _ _ _ h => h) (Or.inr ⟨by rfl, rfl⟩) (by assumption) ?_
  try simp only [Act.put, List.setIfInBounds_toArray, List.set_cons_zero, List.set_cons_succ]
  refine wpAnyH_take (i := 8) (oi := ⟨some 52, _, _, _, _, _⟩) (v := undef) rfl (by kernel_rfl) (by kernel_rfl) (by kernel_rfl) (fun _ _ _ h => h) (Or.inr ⟨by rfl, rfl⟩) (by assumption) ?_
  try simp only [Act.put, List.setIfInBounds_toArray, List.set_cons_zero, List.set_cons_succ]
  refine wpAnyH_take (i := 9) (oi := ⟨some 53, _, _, _, _, _⟩) (v := undef) rfl (by kernel_rfl) (by kernel_rfl) (by kernel_rfl) (fun _ _ _ h => h) (Or.inr ⟨by rfl, rfl⟩) (by assumption) ?_
  try simp only [Act.put, List.setIfInBounds_toArray, List.set_cons_zero, List.set_cons_succ]
  refine wpAnyH_take (i := 10) (oi := ⟨some 54, _, _, _, _, _⟩) (v := undef) rfl (by kernel_rfl) (by kernel_rfl) (by kernel_rfl) (fun _ _ _ h => h) (Or.inr ⟨by rfl, rfl⟩) (by assumption) ?_
  try simp only [Act.put, List.setIfInBounds_toArray, List.set_cons_zero, List.set_cons_succ]
  refine wpAnyH_take (i := 11) (oi := ⟨some 55, _, _, _, _, _⟩) (v := undef) rfl (by kernel_rfl) (by kernel_rfl) (by kernel_rfl) (fun _ _ _ h => h) (Or.inr ⟨by rfl, rfl⟩) (by assumption) ?_
  try simp only [Act.put, List.setIfInBounds_toArray, List.set_cons_zero, List.set_cons_succ]
  refine wpAnyH_take (i := 12) (oi := ⟨some 56, _, _, _, _, _⟩) (v := ?_) rfl (by kernel_rfl) (by kernel_rfl) (by kernel_rfl) (fun _ _ _ h => h) (Or.inl ⟨by rfl, ?_⟩) (by assumption) ?_
  rotate_left
  · intro w hSw; (try dsimp only at hSw); go_simp; try (with_reducible rfl)
  rotate_left 0
  try simp only [Act.put, List.setIfInBounds_toArray, List.set_cons_zero, List.set_cons_succ]
  refine wpAnyH_done (by kernel_rfl) ?_ _
  clear hHeld
  have HV6 := Lib.hid (HV5.out.trans (q.mono HV5.out.size))
  generalize w5.drew = w6 at *
  clear q
  go_wp2_with (first
    | (go_at_call 13; refine (HRB.out _ _ _ (ALLF.out w6 HV6.out).2.2.2.2.2).mono ?_; rintro e w7 ⟨⟨d3, i3, l3, rfl, hR7⟩, hb7⟩; have hv7 := HV6.out.trans (hb7.mono HV6.out.size); have ha3 := msg_all hR7; have hs3 : (msgA r3 d3 i3 l3).size = 41 := arr_size _ _; have HW3 := Lib.hid (HWB.out d3 i3 l3); have HR7 := Lib.hid hR7; generalize msgA r3 d3 i3 l3 = M3 at hs3 ha3 HW3 ⊢; clear hR7 hb7)
    | (guard_target = wpList _ _ _ _ _ _; refine wpList_store_arrW rfl 28 _ _ rfl w7.heap.size M3 rfl rfl 28 _ (Blk.new _ _ _) (by rw [hs3]; kernel_rfl) (by rw [hs3]; rfl) ha3 ?_; intro W8 hS8 hz8 hb8 ho8; have old : ∀ b, b < w7.heap.size → W8.heap[b]? = w7.heap[b]? := fun b hb => (ho8 b (by omega)).trans (Below.heap_alloc w7 _ b hb); have hv8 := hv7.trans ((((Below.refl _ w7).alloc (Nat.le_refl _) _).trans hb8).mono hv7.size); have hR8 := (HR7.out.kept (W' := W8) fun a x ha h => (World.cell?_of_block (old a.block ha.2)).trans h).mono (ok' := fun b => b < W8.heap.size) (fun b hb => by have := hb.2; rw [hz8]; simp; omega); have HW8 := Lib.hid (HW3.out W8 hR8); have HV8 := Lib.hid hv8; clear old hR8 hz8 hb8 ho8 hv7 hv8)
    | (guard_target = wpList _ _ _ _ _ _; refine wpList_load_row rfl 28 _ rfl (w7.heap.size) rfl 28 M3 (0, 0) _ (hS8) Try.underlying28 rfl (by rw [hs3]; kernel_rfl) ?_)
    | (go_at_call 11; refine HW8.out.mono ?_; rintro e w10 ⟨gz, nz, cz, rfl, hn, hown, hb10⟩; have hv10 := HV8.out.trans (hb10.mono HV8.out.size); have hcv1 := str_rd (own_rd hown (hn.trans HLZ.out.1.symm) (by have := HLZ.out; omega)); have hcv2 := str_rd (ALLF.out w10 hv10).2.2.2.2.2; have HEND := Lib.hid (ALLF.out w10 hv10).2.2.1; clear hn hown hb10 hv10 hS8))
  go_ret
  exact ⟨rfl, HEND.out⟩
set_option maxRecDepth 100000 in
set_option maxHeartbeats 8000000 in
theorem one_ynn (r r' : Raw) (d i l d' i' l' : Value) (A : Option Addr) (c : Nat) (bb : List UInt8) (w : World) (hr : RdR w (fun b => b < w.heap.size) r d i l) (hr' : RdR w (fun b => b < w.heap.size) r' d' i' l') (hb : RdB w (fun b => b < w.heap.size) (.slice A bb.length c) bb) (hf : r.Fit) (hf' : ¬ r'.Fit) (k2 : Nat) (hq : readP bb = .error k2) :
    Calls Try.prog 5 #[.agg (msgA r d i l), .agg (msgA r' d' i' l'), .slice A bb.length c] w fun e w' => e = .returned (.bool true) ∧ Below w.heap.size w w' := by
  have HALL : Hid (∀ w1, Below ((w.alloc (.cells (msgA r d i l) 28)).alloc (.cells (msgA r' d' i' l') 28)).heap.size ((w.alloc (.cells (msgA r d i l) 28)).alloc (.cells (msgA r' d' i' l') 28)) w1 → ∀ W, Below w1.heap.size w1 W → Blk W w.heap.size 28 (msgA r d i l) ∧ Blk W (w.heap.size + 1) 28 (msgA r' d' i' l') ∧ Below w.heap.size w W ∧ RdR W (fun b => b < W.heap.size) r d i l ∧ RdR W (fun b => b < W.heap.size) r' d' i' l' ∧ RdB W (fun b => b < W.heap.size) (.slice A bb.length c) bb) := Lib.hid fun w1 h1 W h2 => by
    have h12 := h1.trans (h2.mono h1.size)
    have hw : Below w.heap.size w W := (((Below.refl _ w).alloc (Nat.le_refl _) _).alloc (by simp) _).trans (h12.mono (by simp; omega))
    have b1 : Blk ((w.alloc (.cells (msgA r d i l) 28)).alloc (.cells (msgA r' d' i' l') 28)) w.heap.size 28 (msgA r d i l) := (Blk.new _ _ _).alloc _
    have b2 : Blk ((w.alloc (.cells (msgA r d i l) 28)).alloc (.cells (msgA r' d' i' l') 28)) (w.heap.size + 1) 28 (msgA r' d' i' l') := Blk.newAt _ _ (by simp) rfl
    exact ⟨b1.below h12 b1.lt, b2.below h12 b2.lt, hw, (hr.below hw).mono fun b hb => Nat.lt_of_lt_of_le hb hw.size, (hr'.below hw).mono fun b hb => Nat.lt_of_lt_of_le hb hw.size, (hb.kept fun a x ha h => (hw.cell (p := a) ha).trans h).mono fun b hb => Nat.lt_of_lt_of_le hb hw.size⟩
  have hs : (msgA r d i l).size = 41 := arr_size _ _
  have hs' : (msgA r' d' i' l').size = 41 := arr_size _ _
  have HWM := Lib.hid fun W hR => callsIn_wide.1 (write_ok r hf d i l W hR)
  obtain ⟨r2, hrp, hrm, hrn⟩ := readP_write hf
  have hlk := like_of hrm hrn hf.nn
  have HRX := Lib.hid (read_ok hrp)
  have HSX := Lib.hid fun d2 i2 l2 W hr2 hr1 => same_yes hlk d2 i2 l2 d i l W hr2 hr1
  have hlx := write_len hf.ok
  have hpx := writeM_pos r.m
  have HWN := Lib.hid fun W hR => write_no r' hf' d' i' l' W hR
  have hk0' : r'.check ≠ 0 := fun h => hf' (r'.fit_iff.1 h)
  obtain ⟨ky, hky⟩ : ∃ k, r'.check = k := ⟨_, rfl⟩
  rw [hky] at HWN hk0'
  have hy1 : ¬ (ky : Int) = 0 := by omega
  have hy2 : ((ky : Int) == 0) = false := by simpa using hy1
  have HRB := Lib.hid (read_no hq)
  have HZB := Lib.hid built_msg0
  have hz : (msgA (zeroRaw 0) nilS nilS nilS).size = 41 := arr_size _ _
  have hza : (msgA (zeroRaw 0) nilS nilS nilS).all (·.oneCell') = true := msg_all (zero_rd w (fun _ => False) 0)
  have HSZZ := Lib.hid fun W => same_yes (zero_like 0) nilS nilS nilS nilS nilS nilS W (zero_rd W _ 0) (zero_rd W _ 0)
  obtain ⟨Z, hZ⟩ : ∃ Z, msgA (zeroRaw 0) nilS nilS nilS = Z := ⟨_, rfl⟩
  rw [hZ] at HRB HZB hz hza HSZZ
  have HZS := Lib.hid hz
  have HZA := Lib.hid hza
  obtain ⟨M, hM⟩ : ∃ M, msgA r d i l = M := ⟨_, rfl⟩
  obtain ⟨M', hM'⟩ : ∃ M, msgA r' d' i' l' = M := ⟨_, rfl⟩
  rw [hM] at HALL hs HWM HSX ⊢
  rw [hM'] at HALL hs' HWN ⊢
  obtain ⟨bx, hbx⟩ : ∃ b, writeM r.m = b := ⟨_, rfl⟩
  rw [hbx] at HWM HRX hlx hpx
  obtain ⟨nx0, hnx⟩ : ∃ n, bx.length = n := ⟨_, rfl⟩
  rw [hnx] at HWM HRX hlx hpx
  have HLX := Lib.hid (And.intro hnx hlx)
  obtain ⟨LB, hLB⟩ : ∃ n, bb.length = n := ⟨_, rfl⟩
  rw [hLB] at HALL HRB ⊢
  have HSZ := Lib.hid hs
  have HSZ2 := Lib.hid hs'
  clear hs hs' hr hr' hb hf hq hf' hrp hrm hrn hlk hk0' hky hz hza hZ hM hM' hbx hnx hlx hpx hLB
  go_enter Try.func5, Try.ntmps5
  go_wp2_with (first
    | (go_at_call 10; refine (packs_any _).mono ?_; rintro e w1 ⟨rfl, hb1⟩; have ALLF : Hid (∀ W, Below w1.heap.size w1 W → Blk W w.heap.size 28 M ∧ Blk W (w.heap.size + 1) 28 M' ∧ Below w.heap.size w W ∧ RdR W (fun b => b < W.heap.size) r d i l ∧ RdR W (fun b => b < W.heap.size) r' d' i' l' ∧ RdB W (fun b => b < W.heap.size) (.slice A LB c) bb) := Lib.hid (HALL.out w1 hb1); clear hb1)
    | (guard_target = wpList _ _ _ _ _ _; refine wpList_load_row rfl 28 _ rfl (w.heap.size) rfl 28 M (0, 0) _ ((ALLF.out w1 (Below.refl _ _)).1) Try.underlying28 rfl (by rw [HSZ.out]; kernel_rfl) ?_)
    | (go_at_call 11; refine (HWM.out w1 (ALLF.out w1 (Below.refl _ _)).2.2.2.1).mono ?_; rintro e w2 ⟨gx, nx, cx, rfl, hn, hown, hb2⟩; subst hn; have hrdx := own_rd hown HLX.out.1.symm (by have := HLX.out; omega); have hv2 : Below w1.heap.size w1 w2 := hb2; clear hown hb2 HWM)
    | (guard_target = wpList _ _ _ _ _ _; refine wpList_load_row rfl 28 _ rfl (w.heap.size + 1) rfl 28 M' (0, 0) _ ((ALLF.out w2 hv2).2.1) Try.underlying28 rfl (by rw [HSZ2.out]; kernel_rfl) ?_)
    | (go_at_call 11; refine (HWN.out w2 (ALLF.out w2 hv2).2.2.2.2.1).mono ?_; rintro e w3 ⟨rfl, hb3⟩; have hv3 := hv2.trans (hb3.mono hv2.size); have hrdx3 := (hrdx.kept fun a x ha h => (hb3.cell (p := a) ha.2).trans h).mono (ok' := fun b => b < w3.heap.size) (fun b hb => Nat.lt_of_lt_of_le hb.2 hb3.size); clear hb3 hv2 hrdx HWN)
    | (go_at_call 13; refine (HRX.out _ _ _ hrdx3).mono ?_; rintro e w4 ⟨⟨d2, i2, l2, rfl, hR4⟩, hb4⟩; have hv4 := hv3.trans (hb4.mono hv3.size); have ha2 := msg_all hR4; have hs2 : (msgA r2 d2 i2 l2).size = 41 := arr_size _ _; have HS2 := Lib.hid (HSX.out d2 i2 l2); have HR4 := Lib.hid hR4; have hrdx4 := (hrdx3.kept fun a x ha h => (hb4.cell (p := a) ha).trans h).mono (ok' := fun b => b < w4.heap.size) (fun b hb => Nat.lt_of_lt_of_le hb hb4.size); generalize msgA r2 d2 i2 l2 = M2 at hs2 ha2 HS2 ⊢; clear hR4 hb4 hv3 hrdx3 HRX HSX)
    | (guard_target = wpList _ _ _ _ _ _; refine wpList_store_arrW rfl 28 _ _ rfl w4.heap.size M2 rfl rfl 28 _ (Blk.new _ _ _) (by rw [hs2]; kernel_rfl) (by rw [hs2]; rfl) ha2 ?_; intro W9 hS9 hz9 hb9 ho9; have old : ∀ b, b < w4.heap.size → W9.heap[b]? = w4.heap[b]? := fun b hb => (ho9 b (by omega)).trans (Below.heap_alloc w4 _ b hb); have hv9 := hv4.trans ((((Below.refl _ w4).alloc (Nat.le_refl _) _).trans hb9).mono hv4.size); have hR9 := (HR4.out.kept (W' := W9) fun a x ha h => (World.cell?_of_block (old a.block ha.2)).trans h).mono (ok' := fun b => b < W9.heap.size) (fun b hb => by have := hb.2; rw [hz9]; simp; omega); have hz9' : w4.heap.size ≤ W9.heap.size := Nat.le_trans (by simp) (Nat.le_of_eq hz9.symm); have hrdx9 := (hrdx4.kept (W' := W9) fun a x ha h => (World.cell?_of_block (old a.block ha)).trans h).mono (ok' := fun b => b < W9.heap.size) (fun b hb => Nat.lt_of_lt_of_le hb hz9'); have HSM := Lib.hid (HS2.out W9 hR9 (ALLF.out W9 hv9).2.2.2.1); have HV9 := Lib.hid hv9; have HX9 := Lib.hid hrdx9; clear old hR9 hz9 hz9' hb9 ho9 hv4 hrdx4 hrdx9 hv9)
    | (guard_target = wpList _ _ _ _ _ _; refine wpList_load_blkG (by rfl) 28 _ rfl (w4.heap.size) rfl 28 M2 _ (hS9) Try.underlying28 rfl (by rw [hs2]; kernel_rfl) ?_)
    | (guard_target = wpList _ _ _ _ _ _; refine wpList_load_blkG (by rfl) 28 _ rfl (w.heap.size) rfl 28 M _ ((ALLF.out W9 HV9.out).1) Try.underlying28 rfl (by rw [HSZ.out]; kernel_rfl) ?_)
    | (go_at_call 15; refine HSM.out.mono ?_; rintro e w5 ⟨rfl, hb5⟩; have hv5 := HV9.out.trans (hb5.mono HV9.out.size); have HV5 := Lib.hid hv5; have HX5 := Lib.hid ((HX9.out.kept fun a x ha h => (hb5.cell (p := a) ha).trans h).mono (ok' := fun b => b < w5.heap.size) (fun b hb => Nat.lt_of_lt_of_le hb hb5.size)); clear hb5 hv5 hS9 HSM))
  have q : Below w5.heap.size w5 w5.drew := (Below.refl _ _).drew
  refine wp_region_held_drew (S := fun _ => True) (by kernel_rfl) ?_ (fun hHeld => ?_)
  · trivial
  refine wpAnyH_take (i := 0) (oi := ⟨some 44, _, _, _, _, _⟩) (v := ?_) rfl (by kernel_rfl) (by kernel_rfl) (by kernel_rfl) (fun _ _ _ h => h) (Or.inl ⟨by rfl, ?_⟩) (by assumption) ?_
  rotate_left
  · intro w hSw; (try dsimp only at hSw); go_simp; try (with_reducible rfl)
  rotate_left 0
  try simp only [Act.put, List.setIfInBounds_toArray, List.set_cons_zero, List.set_cons_succ]
  refine wpAnyH_take (i := 1) (oi := ⟨some 45, _, _, _, _, _⟩) (v := ?_) rfl (by kernel_rfl) (by kernel_rfl) (by kernel_rfl) (fun _ _ _ h => h) (Or.inl ⟨by rfl, ?_⟩) (by assumption) ?_
  rotate_left
  · intro w hSw; (try dsimp only at hSw); go_simp; try (with_reducible rfl)
  rotate_left 0
  try simp only [Act.put, List.setIfInBounds_toArray, List.set_cons_zero, List.set_cons_succ]
  refine wpAnyH_take (i := 2) (oi := ⟨some 46, _, _, _, _, _⟩) (v := ?_) rfl (by kernel_rfl) (by kernel_rfl) (by kernel_rfl) (fun _ _ _ h => h) (Or.inl ⟨by rfl, ?_⟩) (by assumption) ?_
  rotate_left
  · intro w hSw; (try dsimp only at hSw); go_simp; try (with_reducible rfl)
  rotate_left 0
  try simp only [Act.put, List.setIfInBounds_toArray, List.set_cons_zero, List.set_cons_succ]
  refine wpAnyH_take (i := 3) (oi := ⟨some 47, _, _, _, _, _⟩) (v := undef) rfl (by kernel_rfl) (by kernel_rfl) (by kernel_rfl) (fun _ _ _ h => h) (Or.inr ⟨by rfl, rfl⟩) (by assumption) ?_
  try simp only [Act.put, List.setIfInBounds_toArray, List.set_cons_zero, List.set_cons_succ]
  refine wpAnyH_take (i := 4) (oi := ⟨some 48, _, _, _, _, _⟩) (v := undef) rfl (by kernel_rfl) (by kernel_rfl) (by kernel_rfl) (fun _ _ _ h => h) (Or.inr ⟨by rfl, rfl⟩) (by assumption) ?_
  try simp only [Act.put, List.setIfInBounds_toArray, List.set_cons_zero, List.set_cons_succ]
  refine wpAnyH_take (i := 5) (oi := ⟨some 49, _, _, _, _, _⟩) (v := undef) rfl (by kernel_rfl) (by kernel_rfl) (by kernel_rfl) (fun _ _ _ h => h) (Or.inr ⟨by rfl, rfl⟩) (by assumption) ?_
  try simp only [Act.put, List.setIfInBounds_toArray, List.set_cons_zero, List.set_cons_succ]
  refine wpAnyH_take (i := 6) (oi := ⟨some 50, _, _, _, _, _⟩) (v := undef) rfl (by kernel_rfl) (by kernel_rfl) (by kernel_rfl) (fun _ _ _ h => h) (Or.inr ⟨by rfl, rfl⟩) (by assumption) ?_
  try simp only [Act.put, List.setIfInBounds_toArray, List.set_cons_zero, List.set_cons_succ]
  refine wpAnyH_take (i := 7) (oi := ⟨some 51, _, _, _, _, _⟩) (v := undef) rfl (by kernel_rfl) (by kernel_rfl) (by kernel_rfl) (fun _ _ _ h => h) (Or.inr ⟨by rfl, rfl⟩) (by assumption) ?_
  try simp only [Act.put, List.setIfInBounds_toArray, List.set_cons_zero, List.set_cons_succ]
  refine wpAnyH_take (i := 8) (oi := ⟨some 52, _, _, _, _, _⟩) (v := undef) rfl (by kernel_rfl) (by kernel_rfl) (by kernel_rfl) (fun _ _ _ h => h) (Or.inr ⟨by rfl, rfl⟩) (by assumption) ?_
  try simp only [Act.put, List.setIfInBounds_toArray, List.set_cons_zero, List.set_cons_succ]
  refine wpAnyH_take (i := 9) (oi := ⟨some 53, _, _, _, _, _⟩) (v := undef) rfl (by kernel_rfl) (by kernel_rfl) (by kernel_rfl) (fun _ _ _ h => h) (Or.inr ⟨by rfl, rfl⟩) (by assumption) ?_
  try simp only [Act.put, List.setIfInBounds_toArray, List.set_cons_zero, List.set_cons_succ]
  refine wpAnyH_take (i := 10) (oi := ⟨some 54, _, _, _, _, _⟩) (v := undef) rfl (by kernel_rfl) (by kernel_rfl) (by kernel_rfl) (fun _ _ _ h => h) (Or.inr ⟨by rfl, rfl⟩) (by assumption) ?_
  try simp only [Act.put, List.setIfInBounds_toArray, List.set_cons_zero, List.set_cons_succ]
  refine wpAnyH_take (i := 11) (oi := ⟨some 55, _, _, _, _, _⟩) (v := undef) rfl (by kernel_rfl) (by kernel_rfl) (by kernel_rfl) (fun _ _ _ h => h) (Or.inr ⟨by rfl, rfl⟩) (by assumption) ?_
  try simp only [Act.put, List.setIfInBounds_toArray, List.set_cons_zero, List.set_cons_succ]
  refine wpAnyH_take (i := 12) (oi := ⟨some 56, _, _, _, _, _⟩) (v := ?_) rfl (by kernel_rfl) (by kernel_rfl) (by kernel_rfl) (fun _ _ _ h => h) (Or.inl ⟨by rfl, ?_⟩) (by assumption) ?_
  rotate_left
  · intro w hSw; (try dsimp only at hSw); go_simp; try (with_reducible rfl)
  rotate_left 0
  try simp only [Act.put, List.setIfInBounds_toArray, List.set_cons_zero, List.set_cons_succ]
  refine wpAnyH_done (by kernel_rfl) ?_ _
  clear hHeld
  have HV6 := Lib.hid (HV5.out.trans (q.mono HV5.out.size))
  generalize w5.drew = w6 at *
  clear q
  go_wp2_with (first
    | (go_at_call 13; refine (HRB.out _ _ _ (ALLF.out w6 HV6.out).2.2.2.2.2).mono ?_; rintro e w7 ⟨⟨rfl, hk2⟩, hb7⟩; have hq1 : ¬ (k2 : Int) = 0 := (by omega); have hq2 : ((k2 : Int) != 0) = true := (by simpa using hq1); have hv7 := HV6.out.trans (hb7.mono HV6.out.size); clear hk2 hb7)
    | (guard_target = wpList _ _ _ _ _ _; refine wpList_store_arrW rfl 28 _ _ rfl w7.heap.size Z rfl rfl 28 _ (Blk.new _ _ _) (by rw [HZS.out]; kernel_rfl) (by rw [HZS.out]; rfl) HZA.out ?_; intro W8 hS8 hz8 hb8 ho8; have HV8 := Lib.hid (hv7.trans ((((Below.refl _ w7).alloc (Nat.le_refl _) _).trans hb8).mono hv7.size)); clear hz8 hb8 ho8 hv7)
    | (guard_target = wpList _ _ _ _ _ _; refine wpList_load_row rfl 28 _ rfl (w7.heap.size) rfl 28 Z (0, 0) _ (hS8) Try.underlying28 rfl (by rw [HZS.out]; kernel_rfl) ?_)
    | (guard_target = wpList _ _ _ (Oper.mk _ (.build _ _) _ _ _ _ :: _) _ _; refine wpList_build rfl 28 _ rfl (by kernel_rfl) ?_; simp only [List.map_toArray, List.map_nil]; rw [HZB.out])
    | (go_at_call 15; refine (HSZZ.out _).mono ?_; rintro e w10 ⟨rfl, hb10⟩; have HEND := Lib.hid (ALLF.out w10 (HV8.out.trans (hb10.mono HV8.out.size))).2.2.1; clear hb10 hS8))
  go_ret
  exact ⟨rfl, HEND.out⟩
theorem oneWay_any (r : Raw) (d i l : Value) (r' : Raw) (d' i' l' : Value) (A : Option Addr) (c : Nat) (bb : List UInt8) (w : World) (hr : RdR w (fun b => b < w.heap.size) r d i l) (hr' : RdR w (fun b => b < w.heap.size) r' d' i' l') (hb : RdB w (fun b => b < w.heap.size) (.slice A bb.length c) bb) :
    Calls Try.prog 5 #[.agg (msgA r d i l), .agg (msgA r' d' i' l'), .slice A bb.length c] w fun e w' => e = .returned (.bool true) ∧ Below w.heap.size w w' := by
  cases hq : readP bb with
  | ok r3 =>
    by_cases hf : r.Fit
    · by_cases hf' : r'.Fit
      · exact one_yyy r r' d i l d' i' l' A c bb w hr hr' hb hf hf' r3 hq
      · exact one_yny r r' d i l d' i' l' A c bb w hr hr' hb hf hf' r3 hq
    · exact one_nay r r' d i l d' i' l' A c bb w hr hr' hb hf r3 hq
  | error k2 =>
    by_cases hf : r.Fit
    · by_cases hf' : r'.Fit
      · exact one_yyn r r' d i l d' i' l' A c bb w hr hr' hb hf hf' k2 hq
      · exact one_ynn r r' d i l d' i' l' A c bb w hr hr' hb hf hf' k2 hq
    · exact one_nan r r' d i l d' i' l' A c bb w hr hr' hb hf k2 hq
end Go.Proofs.Ytngceddlieimmaa
