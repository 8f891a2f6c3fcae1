/-
  PackNums' walk: for every field and every number, in whatever memory: true; nothing old turns.
-/
import Derived.Test.YtngceddlieimmaaPackLawKit
namespace Go.Proofs.Ytngceddlieimmaa
open Go Go.RowKit PackMath

def numR : Nat → Int → Raw
  | 0, n => ⟨9, n, 0, 0, 0, 0, fun _ => 0, [], [], []⟩
  | 1, n => ⟨9, 0, n, 0, 0, 0, fun _ => 0, [], [], []⟩
  | 2, n => ⟨9, 0, 0, n, 0, 0, fun _ => 0, [], [], []⟩
  | 3, n => ⟨9, 0, 0, 0, n, 0, fun _ => 0, [], [], []⟩
  | _, n => ⟨9, 0, 0, 0, 0, n, fun _ => 0, [], [], []⟩
theorem num_set0 (n : Int) : (msgA (zeroRaw 9) nilS nilS nilS).setIfInBounds 1 (.int .i64 n) = msgA (numR 0 n) nilS nilS nilS := by kernel_rfl
theorem num_rd0 (n : Int) (W : World) (ok : Nat → Prop) : RdR W ok (numR 0 n) nilS nilS nilS :=
  ⟨⟨none, 0, rfl, Nat.le_refl _, Nat.zero_le _, fun h => absurd h (by simp [numR])⟩, ⟨none, 0, rfl, Nat.zero_le _, fun k hk => absurd hk (by simp [numR])⟩, ⟨none, 0, rfl, Nat.zero_le _, fun k hk => absurd hk (by simp [numR])⟩⟩
theorem num_fit0 (N : Nat) (h : N ≤ 1099511627776) : (numR 0 (N : Int)).Fit := by
  refine (Raw.fit_iff _).1 ?_
  unfold Raw.check numR
  simp
  omega
theorem num_unfit0 (n : Int) (h : n < 0 ∨ 1099511627776 < n) : (numR 0 n).check = 1 := by
  unfold Raw.check numR
  simp
  omega
theorem num_len0 (N : Nat) : (writeM (numR 0 (N : Int)).m).length = if (digits N).length = 0 then 1 else 5 + (digits N).length := by
  have h2 : idPart (id32 fun _ => 0) = [] := by rw [id32_zero, idPart, if_pos rfl]
  have e : parts (numR 0 (N : Int)).m = [digits N, [], [], [], [], [], [], [], []] := by
    show [digits N, digits 0, digits 0, digits 0, digits 0, idPart (id32 fun _ => 0), [], _, _] = _
    rw [h2, digits_zero]
    rfl
  rw [writeM, e]
  by_cases h : digits N = []
  · rw [h]; rfl
  · have hl : (digits N).length ≠ 0 := fun e => h (List.eq_nil_of_length_eq_zero e)
    simp [body, run, len3, h]
    omega
theorem num_set1 (n : Int) : (msgA (zeroRaw 9) nilS nilS nilS).setIfInBounds 2 (.int .i64 n) = msgA (numR 1 n) nilS nilS nilS := by kernel_rfl
theorem num_rd1 (n : Int) (W : World) (ok : Nat → Prop) : RdR W ok (numR 1 n) nilS nilS nilS :=
  ⟨⟨none, 0, rfl, Nat.le_refl _, Nat.zero_le _, fun h => absurd h (by simp [numR])⟩, ⟨none, 0, rfl, Nat.zero_le _, fun k hk => absurd hk (by simp [numR])⟩, ⟨none, 0, rfl, Nat.zero_le _, fun k hk => absurd hk (by simp [numR])⟩⟩
theorem num_fit1 (N : Nat) (h : N ≤ 1099511627776) : (numR 1 (N : Int)).Fit := by
  refine (Raw.fit_iff _).1 ?_
  unfold Raw.check numR
  simp
  omega
theorem num_unfit1 (n : Int) (h : n < 0 ∨ 1099511627776 < n) : (numR 1 n).check = 1 := by
  unfold Raw.check numR
  simp
  omega
theorem num_len1 (N : Nat) : (writeM (numR 1 (N : Int)).m).length = if (digits N).length = 0 then 1 else 5 + (digits N).length := by
  have h2 : idPart (id32 fun _ => 0) = [] := by rw [id32_zero, idPart, if_pos rfl]
  have e : parts (numR 1 (N : Int)).m = [[], digits N, [], [], [], [], [], [], []] := by
    show [digits 0, digits N, digits 0, digits 0, digits 0, idPart (id32 fun _ => 0), [], _, _] = _
    rw [h2, digits_zero]
    rfl
  rw [writeM, e]
  by_cases h : digits N = []
  · rw [h]; rfl
  · have hl : (digits N).length ≠ 0 := fun e => h (List.eq_nil_of_length_eq_zero e)
    simp [body, run, len3, h]
    omega
theorem num_set2 (n : Int) : (msgA (zeroRaw 9) nilS nilS nilS).setIfInBounds 3 (.int .i64 n) = msgA (numR 2 n) nilS nilS nilS := by kernel_rfl
theorem num_rd2 (n : Int) (W : World) (ok : Nat → Prop) : RdR W ok (numR 2 n) nilS nilS nilS :=
  ⟨⟨none, 0, rfl, Nat.le_refl _, Nat.zero_le _, fun h => absurd h (by simp [numR])⟩, ⟨none, 0, rfl, Nat.zero_le _, fun k hk => absurd hk (by simp [numR])⟩, ⟨none, 0, rfl, Nat.zero_le _, fun k hk => absurd hk (by simp [numR])⟩⟩
theorem num_fit2 (N : Nat) (h : N ≤ 1099511627776) : (numR 2 (N : Int)).Fit := by
  refine (Raw.fit_iff _).1 ?_
  unfold Raw.check numR
  simp
  omega
theorem num_unfit2 (n : Int) (h : n < 0 ∨ 1099511627776 < n) : (numR 2 n).check = 1 := by
  unfold Raw.check numR
  simp
  omega
theorem num_len2 (N : Nat) : (writeM (numR 2 (N : Int)).m).length = if (digits N).length = 0 then 1 else 5 + (digits N).length := by
  have h2 : idPart (id32 fun _ => 0) = [] := by rw [id32_zero, idPart, if_pos rfl]
  have e : parts (numR 2 (N : Int)).m = [[], [], digits N, [], [], [], [], [], []] := by
    show [digits 0, digits 0, digits N, digits 0, digits 0, idPart (id32 fun _ => 0), [], _, _] = _
    rw [h2, digits_zero]
    rfl
  rw [writeM, e]
  by_cases h : digits N = []
  · rw [h]; rfl
  · have hl : (digits N).length ≠ 0 := fun e => h (List.eq_nil_of_length_eq_zero e)
    simp [body, run, len3, h]
    omega
theorem num_set3 (n : Int) : (msgA (zeroRaw 9) nilS nilS nilS).setIfInBounds 4 (.int .i64 n) = msgA (numR 3 n) nilS nilS nilS := by kernel_rfl
theorem num_rd3 (n : Int) (W : World) (ok : Nat → Prop) : RdR W ok (numR 3 n) nilS nilS nilS :=
  ⟨⟨none, 0, rfl, Nat.le_refl _, Nat.zero_le _, fun h => absurd h (by simp [numR])⟩, ⟨none, 0, rfl, Nat.zero_le _, fun k hk => absurd hk (by simp [numR])⟩, ⟨none, 0, rfl, Nat.zero_le _, fun k hk => absurd hk (by simp [numR])⟩⟩
theorem num_fit3 (N : Nat) (h : N ≤ 1099511627776) : (numR 3 (N : Int)).Fit := by
  refine (Raw.fit_iff _).1 ?_
  unfold Raw.check numR
  simp
  omega
theorem num_unfit3 (n : Int) (h : n < 0 ∨ 1099511627776 < n) : (numR 3 n).check = 1 := by
  unfold Raw.check numR
  simp
  omega
theorem num_len3 (N : Nat) : (writeM (numR 3 (N : Int)).m).length = if (digits N).length = 0 then 1 else 5 + (digits N).length := by
  have h2 : idPart (id32 fun _ => 0) = [] := by rw [id32_zero, idPart, if_pos rfl]
  have e : parts (numR 3 (N : Int)).m = [[], [], [], digits N, [], [], [], [], []] := by
    show [digits 0, digits 0, digits 0, digits N, digits 0, idPart (id32 fun _ => 0), [], _, _] = _
    rw [h2, digits_zero]
    rfl
  rw [writeM, e]
  by_cases h : digits N = []
  · rw [h]; rfl
  · have hl : (digits N).length ≠ 0 := fun e => h (List.eq_nil_of_length_eq_zero e)
    simp [body, run, len3, h]
    omega
theorem num_set4 (n : Int) : (msgA (zeroRaw 9) nilS nilS nilS).setIfInBounds 5 (.int .i64 n) = msgA (numR 4 n) nilS nilS nilS := by kernel_rfl
theorem num_rd4 (n : Int) (W : World) (ok : Nat → Prop) : RdR W ok (numR 4 n) nilS nilS nilS :=
  ⟨⟨none, 0, rfl, Nat.le_refl _, Nat.zero_le _, fun h => absurd h (by simp [numR])⟩, ⟨none, 0, rfl, Nat.zero_le _, fun k hk => absurd hk (by simp [numR])⟩, ⟨none, 0, rfl, Nat.zero_le _, fun k hk => absurd hk (by simp [numR])⟩⟩
theorem num_fit4 (N : Nat) (h : N ≤ 1099511627776) : (numR 4 (N : Int)).Fit := by
  refine (Raw.fit_iff _).1 ?_
  unfold Raw.check numR
  simp
  omega
theorem num_unfit4 (n : Int) (h : n < 0 ∨ 1099511627776 < n) : (numR 4 n).check = 1 := by
  unfold Raw.check numR
  simp
  omega
theorem num_len4 (N : Nat) : (writeM (numR 4 (N : Int)).m).length = if (digits N).length = 0 then 1 else 5 + (digits N).length := by
  have h2 : idPart (id32 fun _ => 0) = [] := by rw [id32_zero, idPart, if_pos rfl]
  have e : parts (numR 4 (N : Int)).m = [[], [], [], [], digits N, [], [], [], []] := by
    show [digits 0, digits 0, digits 0, digits 0, digits N, idPart (id32 fun _ => 0), [], _, _] = _
    rw [h2, digits_zero]
    rfl
  rw [writeM, e]
  by_cases h : digits N = []
  · rw [h]; rfl
  · have hl : (digits N).length ≠ 0 := fun e => h (List.eq_nil_of_length_eq_zero e)
    simp [body, run, len3, h]
    omega
set_option maxRecDepth 100000 in
set_option maxHeartbeats 4000000 in
theorem nums_out (a n : Int) (ha : a < 0 ∨ 4 < a) (w : World) :
    Calls Try.prog 8 #[.int .i64 a, .int .i64 n] w fun e w' => e = .returned (.bool true) ∧ Below w.heap.size w w' := by
  have HZ1 := Lib.hid (built_msg1 9)
  have hs0 : (msgA (zeroRaw 9) nilS nilS nilS).size = 41 := arr_size _ _
  have ha0 : (msgA (zeroRaw 9) nilS nilS nilS).all (·.oneCell') = true := msg_all (zero_rd w (fun _ => False) 9)
  obtain ⟨M0, hM0⟩ : ∃ M0, msgA (zeroRaw 9) nilS nilS nilS = M0 := ⟨_, rfl⟩
  rw [hM0] at HZ1 hs0 ha0
  have HS0 := Lib.hid hs0
  have HA0 := Lib.hid ha0
  clear hs0 ha0 hM0
  by_cases h0 : a < 0
  · clear ha
    go_enter Try.func8, Try.ntmps8
    go_wp2_with (first
      | (go_at_call 10; refine (packs_any _).mono ?_; rintro e w1 ⟨rfl, hb1⟩)
      | (guard_target = wpList _ _ _ _ _ _; refine wpList_build rfl 28 _ rfl (by kernel_rfl) ?_; simp only [List.map_toArray, List.map_cons, List.map_nil, Act.eval]; rw [HZ1.out])
      | (guard_target = wpList _ _ _ _ _ _; refine wpList_store_arrW rfl 28 _ _ rfl w1.heap.size M0 rfl rfl 28 _ (Blk.new _ _ _) (by rw [HS0.out]; kernel_rfl) (by rw [HS0.out]; rfl) HA0.out ?_; intro W2 hS2 hz2 hb2 ho2; have hw2 := hb1.trans ((((Below.refl _ w1).alloc (Nat.le_refl _) _).trans hb2).mono hb1.size); have HW2 := Lib.hid hw2; clear hS2 hz2 hb2 ho2 hw2))
    go_ret
    exact ⟨rfl, HW2.out.alloc HW2.out.size _⟩
  · have h1 : 4 < a := by omega
    have d0 : decide (a < 0) = false := decide_eq_false h0
    clear ha
    go_enter Try.func8, Try.ntmps8
    go_wp2_with (first
      | (go_at_call 10; refine (packs_any _).mono ?_; rintro e w1 ⟨rfl, hb1⟩)
      | (guard_target = wpList _ _ _ _ _ _; refine wpList_build rfl 28 _ rfl (by kernel_rfl) ?_; simp only [List.map_toArray, List.map_cons, List.map_nil, Act.eval]; rw [HZ1.out])
      | (guard_target = wpList _ _ _ _ _ _; refine wpList_store_arrW rfl 28 _ _ rfl w1.heap.size M0 rfl rfl 28 _ (Blk.new _ _ _) (by rw [HS0.out]; kernel_rfl) (by rw [HS0.out]; rfl) HA0.out ?_; intro W2 hS2 hz2 hb2 ho2; have hw2 := hb1.trans ((((Below.refl _ w1).alloc (Nat.le_refl _) _).trans hb2).mono hb1.size); have HW2 := Lib.hid hw2; clear hS2 hz2 hb2 ho2 hw2))
    go_ret
    exact ⟨rfl, HW2.out.alloc HW2.out.size _⟩
set_option maxRecDepth 100000 in
set_option maxHeartbeats 4000000 in
theorem nums_bad0 (n : Int) (hn : n < 0 ∨ 1099511627776 < n) (w : World) :
    Calls Try.prog 8 #[.int .i64 0, .int .i64 n] w fun e w' => e = .returned (.bool true) ∧ Below w.heap.size w w' := by
  have HZ1 := Lib.hid (built_msg1 9)
  have hm1 := num_set0 n
  have hs1 : (msgA (numR 0 n) nilS nilS nilS).size = 41 := arr_size _ _
  have hs0 : (msgA (zeroRaw 9) nilS nilS nilS).size = 41 := arr_size _ _
  have ha0 : (msgA (zeroRaw 9) nilS nilS nilS).all (·.oneCell') = true := msg_all (zero_rd w (fun _ => False) 9)
  have hc0 : (msgA (zeroRaw 9) nilS nilS nilS)[1]? = some (.int .i64 0) := by kernel_rfl
  have HW : Hid (∀ W, Calls Try.prog 11 #[.agg (msgA (numR 0 n) nilS nilS nilS)] W fun e w' => e = .returned (.tuple #[.slice none 0 0, .int .i64 1]) ∧ Below W.heap.size W w') := Lib.hid fun W => by
    have := write_no (numR 0 n) (fun h => by have := (Raw.fit_iff _).2 h; rw [num_unfit0 n hn] at this; cases this) nilS nilS nilS W (num_rd0 n _ _)
    rw [num_unfit0 n hn] at this
    exact this
  obtain ⟨M0, hM0⟩ : ∃ M0, msgA (zeroRaw 9) nilS nilS nilS = M0 := ⟨_, rfl⟩
  obtain ⟨M1, hM1⟩ : ∃ M1, msgA (numR 0 n) nilS nilS nilS = M1 := ⟨_, rfl⟩
  rw [hM0] at HZ1 hm1 hs0 ha0 hc0
  rw [hM1] at hm1 hs1 HW
  have HM1 := Lib.hid hm1
  have HS1 := Lib.hid hs1
  have HS0 := Lib.hid hs0
  have HA0 := Lib.hid ha0
  have HC0 := Lib.hid hc0
  clear hm1 hs1 hs0 ha0 hc0 hM0 hM1
  by_cases h0 : n < 0
  · clear hn
    go_enter Try.func8, Try.ntmps8
    go_wp2_with (first
      | (go_at_call 10; refine (packs_any _).mono ?_; rintro e w1 ⟨rfl, hb1⟩)
      | (guard_target = wpList _ _ _ _ _ _; refine wpList_build rfl 28 _ rfl (by kernel_rfl) ?_; simp only [List.map_toArray, List.map_cons, List.map_nil, Act.eval]; rw [HZ1.out])
      | (guard_target = wpList _ _ _ _ _ _; refine wpList_store_arrW rfl 28 _ _ rfl w1.heap.size M0 rfl rfl 28 _ (Blk.new _ _ _) (by rw [HS0.out]; kernel_rfl) (by rw [HS0.out]; rfl) HA0.out ?_; intro W2 hS2 hz2 hb2 ho2; have hw2 := hb1.trans ((((Below.refl _ w1).alloc (Nat.le_refl _) _).trans hb2).mono hb1.size); have hl2 := hS2.lt; have hC : ∀ ob, (W2.alloc ob).cell? ⟨w1.heap.size, 1, none⟩ = some (.int .i64 0) := fun ob => ((hS2.alloc ob).cell 1).trans HC0.out; have hFz : ∀ ob, (W2.alloc ob).frozen? ⟨w1.heap.size, 1, none⟩ = false := fun ob => (hS2.alloc ob).frozen 1; have HSET : Hid (∀ ob, Blk ((W2.alloc ob).setCell ⟨w1.heap.size, 1, none⟩ (.int .i64 n)) w1.heap.size 28 M1 ∧ Below w.heap.size w ((W2.alloc ob).setCell ⟨w1.heap.size, 1, none⟩ (.int .i64 n))) := Lib.hid fun ob => ⟨((hS2.alloc ob).store 1 _).same HM1.out, (hw2.alloc hw2.size _).setCell hb1.size _⟩; clear hS2 hz2 hb2 ho2 hw2 hl2)
      | (guard_target = wpList _ _ _ (Oper.mk _ (.load 28 _) _ _ _ _ :: _) _ _; refine gen_world (Fa := fun W => Blk W w1.heap.size 28 M1 ∧ Below w.heap.size w W) (HSET.out _) (fun W3 hF => ?_); obtain ⟨hS3, hw3⟩ := hF; refine wpList_load_row rfl 28 _ rfl w1.heap.size rfl 28 M1 (0, 0) _ hS3 Try.underlying28 rfl (by rw [HS1.out]; kernel_rfl) ?_; clear hC hFz HSET)
      | (go_at_call 11; refine (HW.out _).mono ?_; rintro e w4 ⟨rfl, hb4⟩; have HW4 := Lib.hid (hw3.trans (hb4.mono hw3.size)); clear hb4 hw3 hS3))
    go_ret
    exact ⟨rfl, HW4.out⟩
  · have h1 : 1099511627776 < n := by omega
    have d0 : decide (n < 0) = false := decide_eq_false h0
    clear hn
    go_enter Try.func8, Try.ntmps8
    go_wp2_with (first
      | (go_at_call 10; refine (packs_any _).mono ?_; rintro e w1 ⟨rfl, hb1⟩)
      | (guard_target = wpList _ _ _ _ _ _; refine wpList_build rfl 28 _ rfl (by kernel_rfl) ?_; simp only [List.map_toArray, List.map_cons, List.map_nil, Act.eval]; rw [HZ1.out])
      | (guard_target = wpList _ _ _ _ _ _; refine wpList_store_arrW rfl 28 _ _ rfl w1.heap.size M0 rfl rfl 28 _ (Blk.new _ _ _) (by rw [HS0.out]; kernel_rfl) (by rw [HS0.out]; rfl) HA0.out ?_; intro W2 hS2 hz2 hb2 ho2; have hw2 := hb1.trans ((((Below.refl _ w1).alloc (Nat.le_refl _) _).trans hb2).mono hb1.size); have hl2 := hS2.lt; have hC : ∀ ob, (W2.alloc ob).cell? ⟨w1.heap.size, 1, none⟩ = some (.int .i64 0) := fun ob => ((hS2.alloc ob).cell 1).trans HC0.out; have hFz : ∀ ob, (W2.alloc ob).frozen? ⟨w1.heap.size, 1, none⟩ = false := fun ob => (hS2.alloc ob).frozen 1; have HSET : Hid (∀ ob, Blk ((W2.alloc ob).setCell ⟨w1.heap.size, 1, none⟩ (.int .i64 n)) w1.heap.size 28 M1 ∧ Below w.heap.size w ((W2.alloc ob).setCell ⟨w1.heap.size, 1, none⟩ (.int .i64 n))) := Lib.hid fun ob => ⟨((hS2.alloc ob).store 1 _).same HM1.out, (hw2.alloc hw2.size _).setCell hb1.size _⟩; clear hS2 hz2 hb2 ho2 hw2 hl2)
      | (guard_target = wpList _ _ _ (Oper.mk _ (.load 28 _) _ _ _ _ :: _) _ _; refine gen_world (Fa := fun W => Blk W w1.heap.size 28 M1 ∧ Below w.heap.size w W) (HSET.out _) (fun W3 hF => ?_); obtain ⟨hS3, hw3⟩ := hF; refine wpList_load_row rfl 28 _ rfl w1.heap.size rfl 28 M1 (0, 0) _ hS3 Try.underlying28 rfl (by rw [HS1.out]; kernel_rfl) ?_; clear hC hFz HSET)
      | (go_at_call 11; refine (HW.out _).mono ?_; rintro e w4 ⟨rfl, hb4⟩; have HW4 := Lib.hid (hw3.trans (hb4.mono hw3.size)); clear hb4 hw3 hS3))
    go_ret
    exact ⟨rfl, HW4.out⟩
set_option maxRecDepth 100000 in
set_option maxHeartbeats 4000000 in
theorem nums_good0 (N : Nat) (hn : N ≤ 1099511627776) (w : World) :
    Calls Try.prog 8 #[.int .i64 0, .int .i64 (N : Int)] w fun e w' => e = .returned (.bool true) ∧ Below w.heap.size w w' := by
  obtain ⟨n, hnn⟩ : ∃ n : Int, (N : Int) = n := ⟨_, rfl⟩
  have hf := num_fit0 N hn
  have hll := num_len0 N
  have hpos := writeM_pos (numR 0 (N : Int)).m
  have hup := write_len hf.ok
  obtain ⟨r2, hrp, hrm, hrn⟩ := readP_write hf
  have hlk := like_of hrm hrn hf.nn
  have HR := Lib.hid (read_ok hrp)
  have HW := Lib.hid fun W => callsIn_wide.1 (write_ok _ hf nilS nilS nilS W (num_rd0 _ _ _))
  have HS := Lib.hid fun d2 i2 l2 W hr2 => same_yes hlk d2 i2 l2 nilS nilS nilS W hr2 (num_rd0 _ _ _)
  obtain ⟨bs, hbs⟩ : ∃ bs, writeM (numR 0 (N : Int)).m = bs := ⟨_, rfl⟩
  rw [hbs] at HR HW hll hpos hup
  obtain ⟨LL, hLL⟩ : ∃ LL, bs.length = LL := ⟨_, rfl⟩
  rw [hLL] at HR HW hll hpos hup
  obtain ⟨D, hD⟩ : ∃ D, (digits N).length = D := ⟨_, rfl⟩
  rw [hD] at hll
  have hD6 : D ≤ 6 := by rw [← hD]; exact digits_length 6 N (by omega)
  have HLB := Lib.hid (And.intro hLL (And.intro hpos (And.intro hup hll)))
  have HD := Lib.hid hD
  clear hf hrp hrm hrn hlk hbs hLL hll hpos hup hD
  rw [hnn] at HW HS
  have HZ1 := Lib.hid (built_msg1 9)
  have hm1 := num_set0 n
  have hs1 : (msgA (numR 0 n) nilS nilS nilS).size = 41 := arr_size _ _
  have hs0 : (msgA (zeroRaw 9) nilS nilS nilS).size = 41 := arr_size _ _
  have ha0 : (msgA (zeroRaw 9) nilS nilS nilS).all (·.oneCell') = true := msg_all (zero_rd w (fun _ => False) 9)
  have hc0 : (msgA (zeroRaw 9) nilS nilS nilS)[1]? = some (.int .i64 0) := by kernel_rfl
  obtain ⟨M0, hM0⟩ : ∃ M0, msgA (zeroRaw 9) nilS nilS nilS = M0 := ⟨_, rfl⟩
  obtain ⟨M1, hM1⟩ : ∃ M1, msgA (numR 0 n) nilS nilS nilS = M1 := ⟨_, rfl⟩
  rw [hM0] at HZ1 hm1 hs0 ha0 hc0
  rw [hM1] at hm1 hs1 HW HS
  have HM1 := Lib.hid hm1
  have HS1 := Lib.hid hs1
  have HS0 := Lib.hid hs0
  have HA0 := Lib.hid ha0
  have HC0 := Lib.hid hc0
  clear hm1 hs1 hs0 ha0 hc0 hM0 hM1
  subst hnn
  have h0 : ¬ (N : Int) < 0 := by omega
  have d0 : decide ((N : Int) < 0) = false := decide_eq_false h0
  have h1 : ¬ 1099511627776 < (N : Int) := by omega
  have d1 : decide (1099511627776 < (N : Int)) = false := decide_eq_false h1
  go_enter Try.func8, Try.ntmps8
  go_wp2_with (first
    | (go_at_call 10; refine (packs_any _).mono ?_; rintro e w1 ⟨rfl, hb1⟩)
    | (guard_target = wpList _ _ _ _ _ _; refine wpList_build rfl 28 _ rfl (by kernel_rfl) ?_; simp only [List.map_toArray, List.map_cons, List.map_nil, Act.eval]; rw [HZ1.out])
    | (guard_target = wpList _ _ _ _ _ _; refine wpList_store_arrW rfl 28 _ _ rfl w1.heap.size M0 rfl rfl 28 _ (Blk.new _ _ _) (by rw [HS0.out]; kernel_rfl) (by rw [HS0.out]; rfl) HA0.out ?_; intro W2 hS2 hz2 hb2 ho2; have hw2 := hb1.trans ((((Below.refl _ w1).alloc (Nat.le_refl _) _).trans hb2).mono hb1.size); have hl2 := hS2.lt; have hC : ∀ ob, (W2.alloc ob).cell? ⟨w1.heap.size, 1, none⟩ = some (.int .i64 0) := fun ob => ((hS2.alloc ob).cell 1).trans HC0.out; have hFz : ∀ ob, (W2.alloc ob).frozen? ⟨w1.heap.size, 1, none⟩ = false := fun ob => (hS2.alloc ob).frozen 1; have HSET : Hid (∀ ob, Blk ((W2.alloc ob).setCell ⟨w1.heap.size, 1, none⟩ (.int .i64 (N : Int))) w1.heap.size 28 M1 ∧ Below w.heap.size w ((W2.alloc ob).setCell ⟨w1.heap.size, 1, none⟩ (.int .i64 (N : Int)))) := Lib.hid fun ob => ⟨((hS2.alloc ob).store 1 _).same HM1.out, (hw2.alloc hw2.size _).setCell hb1.size _⟩; clear hS2 hz2 hb2 ho2 hw2 hl2)
    | (guard_target = wpList _ _ _ (Oper.mk _ (.load 28 _) _ _ _ _ :: _) _ _; refine gen_world (Fa := fun W => Blk W w1.heap.size 28 M1 ∧ Below w.heap.size w W) (HSET.out _) (fun W3 hF => ?_); obtain ⟨hS3, hw3⟩ := hF; refine wpList_load_row rfl 28 _ rfl w1.heap.size rfl 28 M1 (0, 0) _ hS3 Try.underlying28 rfl (by rw [HS1.out]; kernel_rfl) ?_; clear hC hFz HSET)
    | (go_at_call 11; refine (HW.out _).mono ?_; rintro e w4 ⟨g, L, cap, rfl, hn, hown, hb4⟩; have hw4 := hw3.trans (hb4.mono hw3.size); have hS4 := hS3.below hb4 hS3.lt; have hrd := own_rd hown (hn.trans HLB.out.1.symm) (by have := HLB.out; omega); have HRD := Lib.hid (hrd.mono (ok' := fun b => b < w4.heap.size) fun b hb => hb.2); have HLN : Hid (L = LL) := Lib.hid hn; have HW4 := Lib.hid (And.intro hw4 hS4); clear hown hrd hn hb4 hw3 hS3 hw4 hS4))
  clear h0 d0 h1 d1
  go_loopw [9, 10] (fun c v wr => ∃ (x k : Nat), x ≤ N ∧ k ≤ 6 ∧ c = .int .i64 (k : Int) ∧ v = .int .i64 (x : Int) ∧ (digits x).length + k = D ∧ wr = w4) (fun _ v _ => (intOf v).toNat)
  case atStart => exact ⟨N, 0, Nat.le_refl _, by omega, rfl, rfl, by rw [HD.out]; rfl, by trivial⟩
  case round =>
    obtain ⟨x, k, hx, hk, rfl, rfl, hd, rfl⟩ := hrel
    by_cases hx0 : 0 < x
    · have hx1 : (0 : Int) < (x : Int) := by omega
      have hx2 : (x : Int) ≤ 1099511627776 := by omega
      have hk6 : (k : Int) ≤ 6 := by omega
      rw [digits_pos hx0, List.length_append, List.length_singleton] at hd
      go_wp2
      go_roundw
      case rel => exact ⟨x / 256, k + 1, by omega, by omega, by go_num, by go_num, by omega, by trivial⟩
      case measure => simp [intOf]; omega
    · obtain rfl : x = 0 := by omega
      rw [digits_zero, List.length_nil, Nat.zero_add] at hd
      subst hd
      clear hx hx0
      have hL := HLB.out.2.2.2
      rw [← HLN.out] at hL
      have HRDx := HRD.out
      have e0 : LL = L := HLN.out.symm
      subst e0
      by_cases hk0 : k = 0
      · subst hk0
        rw [if_pos rfl] at hL
        subst hL
        go_wp2_with (first
          | (go_at_call 13; refine (HR.out _ _ _ HRD.out).mono ?_; rintro e w5 ⟨⟨d2, i2, l2, rfl, hR5⟩, hb5⟩; have hw5 := HW4.out.1.trans (hb5.mono HW4.out.1.size); have hS5 := HW4.out.2.below hb5 HW4.out.2.lt; have ha2 := msg_all hR5; have hs2 : (msgA r2 d2 i2 l2).size = 41 := arr_size _ _; have HS2 := Lib.hid (HS.out d2 i2 l2); have HR5 := Lib.hid hR5; generalize msgA r2 d2 i2 l2 = M2 at hs2 ha2 HS2 ⊢; clear hR5 hb5)
          | (guard_target = wpList _ _ _ _ _ _; refine wpList_store_arrW rfl 28 _ _ rfl w5.heap.size M2 rfl rfl 28 _ (Blk.new _ _ _) (by rw [hs2]; kernel_rfl) (by rw [hs2]; rfl) ha2 ?_; intro W9 hS9 hz9 hb9 ho9; have old : ∀ b, b < w5.heap.size → W9.heap[b]? = w5.heap[b]? := fun b hb => (ho9 b (by omega)).trans (Below.heap_alloc w5 _ b hb); have hx9 : Blk W9 w1.heap.size 28 M1 := (old _ hS5.lt).trans hS5; have hR9 := (HR5.out.kept (W' := W9) fun a x ha h => (World.cell?_of_block (old a.block ha.2)).trans h).mono (ok' := fun b => b < W9.heap.size) (fun b hb => by have := hb.2; rw [hz9]; simp; omega); have HSM := Lib.hid (HS2.out W9 hR9); have HW9 := Lib.hid (hw5.trans ((((Below.refl _ w5).alloc (Nat.le_refl _) _).trans hb9).mono hw5.size)); clear old hR9 hz9 hb9 ho9 hw5 hS5)
          | (guard_target = wpList _ _ _ _ _ _; refine wpList_load_blkG (by rfl) 28 _ rfl w5.heap.size rfl 28 M2 _ hS9 Try.underlying28 rfl (by rw [hs2]; kernel_rfl) ?_)
          | (guard_target = wpList _ _ _ _ _ _; refine wpList_load_blkG (by rfl) 28 _ rfl w1.heap.size rfl 28 M1 _ hx9 Try.underlying28 rfl (by rw [HS1.out]; kernel_rfl) ?_)
          | (go_at_call 15; refine HSM.out.mono ?_; rintro e w6 ⟨rfl, hb6⟩; have HW6 := Lib.hid (HW9.out.trans (hb6.mono HW9.out.size)); clear hb6))
        go_ret
        exact ⟨rfl, HW6.out⟩
      · rw [if_neg hk0] at hL
        have hkp : (0 : Int) < (k : Int) := by omega
        have hk6 : (k : Int) ≤ 6 := by omega
        have hLe : ((LL : Nat) : Int) = 5 + (k : Int) := by omega
        clear hL hk0
        go_wp2_with (first
          | (go_at_call 13; refine (HR.out _ _ _ HRD.out).mono ?_; rintro e w5 ⟨⟨d2, i2, l2, rfl, hR5⟩, hb5⟩; have hw5 := HW4.out.1.trans (hb5.mono HW4.out.1.size); have hS5 := HW4.out.2.below hb5 HW4.out.2.lt; have ha2 := msg_all hR5; have hs2 : (msgA r2 d2 i2 l2).size = 41 := arr_size _ _; have HS2 := Lib.hid (HS.out d2 i2 l2); have HR5 := Lib.hid hR5; generalize msgA r2 d2 i2 l2 = M2 at hs2 ha2 HS2 ⊢; clear hR5 hb5)
          | (guard_target = wpList _ _ _ _ _ _; refine wpList_store_arrW rfl 28 _ _ rfl w5.heap.size M2 rfl rfl 28 _ (Blk.new _ _ _) (by rw [hs2]; kernel_rfl) (by rw [hs2]; rfl) ha2 ?_; intro W9 hS9 hz9 hb9 ho9; have old : ∀ b, b < w5.heap.size → W9.heap[b]? = w5.heap[b]? := fun b hb => (ho9 b (by omega)).trans (Below.heap_alloc w5 _ b hb); have hx9 : Blk W9 w1.heap.size 28 M1 := (old _ hS5.lt).trans hS5; have hR9 := (HR5.out.kept (W' := W9) fun a x ha h => (World.cell?_of_block (old a.block ha.2)).trans h).mono (ok' := fun b => b < W9.heap.size) (fun b hb => by have := hb.2; rw [hz9]; simp; omega); have HSM := Lib.hid (HS2.out W9 hR9); have HW9 := Lib.hid (hw5.trans ((((Below.refl _ w5).alloc (Nat.le_refl _) _).trans hb9).mono hw5.size)); clear old hR9 hz9 hb9 ho9 hw5 hS5)
          | (guard_target = wpList _ _ _ _ _ _; refine wpList_load_blkG (by rfl) 28 _ rfl w5.heap.size rfl 28 M2 _ hS9 Try.underlying28 rfl (by rw [hs2]; kernel_rfl) ?_)
          | (guard_target = wpList _ _ _ _ _ _; refine wpList_load_blkG (by rfl) 28 _ rfl w1.heap.size rfl 28 M1 _ hx9 Try.underlying28 rfl (by rw [HS1.out]; kernel_rfl) ?_)
          | (go_at_call 15; refine HSM.out.mono ?_; rintro e w6 ⟨rfl, hb6⟩; have HW6 := Lib.hid (HW9.out.trans (hb6.mono HW9.out.size)); clear hb6))
        go_ret
        exact ⟨rfl, HW6.out⟩
set_option maxRecDepth 100000 in
set_option maxHeartbeats 4000000 in
theorem nums_bad1 (n : Int) (hn : n < 0 ∨ 1099511627776 < n) (w : World) :
    Calls Try.prog 8 #[.int .i64 1, .int .i64 n] w fun e w' => e = .returned (.bool true) ∧ Below w.heap.size w w' := by
  have HZ1 := Lib.hid (built_msg1 9)
  have hm1 := num_set1 n
  have hs1 : (msgA (numR 1 n) nilS nilS nilS).size = 41 := arr_size _ _
  have hs0 : (msgA (zeroRaw 9) nilS nilS nilS).size = 41 := arr_size _ _
  have ha0 : (msgA (zeroRaw 9) nilS nilS nilS).all (·.oneCell') = true := msg_all (zero_rd w (fun _ => False) 9)
  have hc0 : (msgA (zeroRaw 9) nilS nilS nilS)[2]? = some (.int .i64 0) := by kernel_rfl
  have HW : Hid (∀ W, Calls Try.prog 11 #[.agg (msgA (numR 1 n) nilS nilS nilS)] W fun e w' => e = .returned (.tuple #[.slice none 0 0, .int .i64 1]) ∧ Below W.heap.size W w') := Lib.hid fun W => by
    have := write_no (numR 1 n) (fun h => by have := (Raw.fit_iff _).2 h; rw [num_unfit1 n hn] at this; cases this) nilS nilS nilS W (num_rd1 n _ _)
    rw [num_unfit1 n hn] at this
    exact this
  obtain ⟨M0, hM0⟩ : ∃ M0, msgA (zeroRaw 9) nilS nilS nilS = M0 := ⟨_, rfl⟩
  obtain ⟨M1, hM1⟩ : ∃ M1, msgA (numR 1 n) nilS nilS nilS = M1 := ⟨_, rfl⟩
  rw [hM0] at HZ1 hm1 hs0 ha0 hc0
  rw [hM1] at hm1 hs1 HW
  have HM1 := Lib.hid hm1
  have HS1 := Lib.hid hs1
  have HS0 := Lib.hid hs0
  have HA0 := Lib.hid ha0
  have HC0 := Lib.hid hc0
  clear hm1 hs1 hs0 ha0 hc0 hM0 hM1
  by_cases h0 : n < 0
  · clear hn
    go_enter Try.func8, Try.ntmps8
    go_wp2_with (first
      | (go_at_call 10; refine (packs_any _).mono ?_; rintro e w1 ⟨rfl, hb1⟩)
      | (guard_target = wpList _ _ _ _ _ _; refine wpList_build rfl 28 _ rfl (by kernel_rfl) ?_; simp only [List.map_toArray, List.map_cons, List.map_nil, Act.eval]; rw [HZ1.out])
      | (guard_target = wpList _ _ _ _ _ _; refine wpList_store_arrW rfl 28 _ _ rfl w1.heap.size M0 rfl rfl 28 _ (Blk.new _ _ _) (by rw [HS0.out]; kernel_rfl) (by rw [HS0.out]; rfl) HA0.out ?_; intro W2 hS2 hz2 hb2 ho2; have hw2 := hb1.trans ((((Below.refl _ w1).alloc (Nat.le_refl _) _).trans hb2).mono hb1.size); have hl2 := hS2.lt; have hC : ∀ ob, (W2.alloc ob).cell? ⟨w1.heap.size, 2, none⟩ = some (.int .i64 0) := fun ob => ((hS2.alloc ob).cell 2).trans HC0.out; have hFz : ∀ ob, (W2.alloc ob).frozen? ⟨w1.heap.size, 2, none⟩ = false := fun ob => (hS2.alloc ob).frozen 2; have HSET : Hid (∀ ob, Blk ((W2.alloc ob).setCell ⟨w1.heap.size, 2, none⟩ (.int .i64 n)) w1.heap.size 28 M1 ∧ Below w.heap.size w ((W2.alloc ob).setCell ⟨w1.heap.size, 2, none⟩ (.int .i64 n))) := Lib.hid fun ob => ⟨((hS2.alloc ob).store 2 _).same HM1.out, (hw2.alloc hw2.size _).setCell hb1.size _⟩; clear hS2 hz2 hb2 ho2 hw2 hl2)
      | (guard_target = wpList _ _ _ (Oper.mk _ (.load 28 _) _ _ _ _ :: _) _ _; refine gen_world (Fa := fun W => Blk W w1.heap.size 28 M1 ∧ Below w.heap.size w W) (HSET.out _) (fun W3 hF => ?_); obtain ⟨hS3, hw3⟩ := hF; refine wpList_load_row rfl 28 _ rfl w1.heap.size rfl 28 M1 (0, 0) _ hS3 Try.underlying28 rfl (by rw [HS1.out]; kernel_rfl) ?_; clear hC hFz HSET)
      | (go_at_call 11; refine (HW.out _).mono ?_; rintro e w4 ⟨rfl, hb4⟩; have HW4 := Lib.hid (hw3.trans (hb4.mono hw3.size)); clear hb4 hw3 hS3))
    go_ret
    exact ⟨rfl, HW4.out⟩
  · have h1 : 1099511627776 < n := by omega
    have d0 : decide (n < 0) = false := decide_eq_false h0
    clear hn
    go_enter Try.func8, Try.ntmps8
    go_wp2_with (first
      | (go_at_call 10; refine (packs_any _).mono ?_; rintro e w1 ⟨rfl, hb1⟩)
      | (guard_target = wpList _ _ _ _ _ _; refine wpList_build rfl 28 _ rfl (by kernel_rfl) ?_; simp only [List.map_toArray, List.map_cons, List.map_nil, Act.eval]; rw [HZ1.out])
      | (guard_target = wpList _ _ _ _ _ _; refine wpList_store_arrW rfl 28 _ _ rfl w1.heap.size M0 rfl rfl 28 _ (Blk.new _ _ _) (by rw [HS0.out]; kernel_rfl) (by rw [HS0.out]; rfl) HA0.out ?_; intro W2 hS2 hz2 hb2 ho2; have hw2 := hb1.trans ((((Below.refl _ w1).alloc (Nat.le_refl _) _).trans hb2).mono hb1.size); have hl2 := hS2.lt; have hC : ∀ ob, (W2.alloc ob).cell? ⟨w1.heap.size, 2, none⟩ = some (.int .i64 0) := fun ob => ((hS2.alloc ob).cell 2).trans HC0.out; have hFz : ∀ ob, (W2.alloc ob).frozen? ⟨w1.heap.size, 2, none⟩ = false := fun ob => (hS2.alloc ob).frozen 2; have HSET : Hid (∀ ob, Blk ((W2.alloc ob).setCell ⟨w1.heap.size, 2, none⟩ (.int .i64 n)) w1.heap.size 28 M1 ∧ Below w.heap.size w ((W2.alloc ob).setCell ⟨w1.heap.size, 2, none⟩ (.int .i64 n))) := Lib.hid fun ob => ⟨((hS2.alloc ob).store 2 _).same HM1.out, (hw2.alloc hw2.size _).setCell hb1.size _⟩; clear hS2 hz2 hb2 ho2 hw2 hl2)
      | (guard_target = wpList _ _ _ (Oper.mk _ (.load 28 _) _ _ _ _ :: _) _ _; refine gen_world (Fa := fun W => Blk W w1.heap.size 28 M1 ∧ Below w.heap.size w W) (HSET.out _) (fun W3 hF => ?_); obtain ⟨hS3, hw3⟩ := hF; refine wpList_load_row rfl 28 _ rfl w1.heap.size rfl 28 M1 (0, 0) _ hS3 Try.underlying28 rfl (by rw [HS1.out]; kernel_rfl) ?_; clear hC hFz HSET)
      | (go_at_call 11; refine (HW.out _).mono ?_; rintro e w4 ⟨rfl, hb4⟩; have HW4 := Lib.hid (hw3.trans (hb4.mono hw3.size)); clear hb4 hw3 hS3))
    go_ret
    exact ⟨rfl, HW4.out⟩
set_option maxRecDepth 100000 in
set_option maxHeartbeats 4000000 in
theorem nums_good1 (N : Nat) (hn : N ≤ 1099511627776) (w : World) :
    Calls Try.prog 8 #[.int .i64 1, .int .i64 (N : Int)] w fun e w' => e = .returned (.bool true) ∧ Below w.heap.size w w' := by
  obtain ⟨n, hnn⟩ : ∃ n : Int, (N : Int) = n := ⟨_, rfl⟩
  have hf := num_fit1 N hn
  have hll := num_len1 N
  have hpos := writeM_pos (numR 1 (N : Int)).m
  have hup := write_len hf.ok
  obtain ⟨r2, hrp, hrm, hrn⟩ := readP_write hf
  have hlk := like_of hrm hrn hf.nn
  have HR := Lib.hid (read_ok hrp)
  have HW := Lib.hid fun W => callsIn_wide.1 (write_ok _ hf nilS nilS nilS W (num_rd1 _ _ _))
  have HS := Lib.hid fun d2 i2 l2 W hr2 => same_yes hlk d2 i2 l2 nilS nilS nilS W hr2 (num_rd1 _ _ _)
  obtain ⟨bs, hbs⟩ : ∃ bs, writeM (numR 1 (N : Int)).m = bs := ⟨_, rfl⟩
  rw [hbs] at HR HW hll hpos hup
  obtain ⟨LL, hLL⟩ : ∃ LL, bs.length = LL := ⟨_, rfl⟩
  rw [hLL] at HR HW hll hpos hup
  obtain ⟨D, hD⟩ : ∃ D, (digits N).length = D := ⟨_, rfl⟩
  rw [hD] at hll
  have hD6 : D ≤ 6 := by rw [← hD]; exact digits_length 6 N (by omega)
  have HLB := Lib.hid (And.intro hLL (And.intro hpos (And.intro hup hll)))
  have HD := Lib.hid hD
  clear hf hrp hrm hrn hlk hbs hLL hll hpos hup hD
  rw [hnn] at HW HS
  have HZ1 := Lib.hid (built_msg1 9)
  have hm1 := num_set1 n
  have hs1 : (msgA (numR 1 n) nilS nilS nilS).size = 41 := arr_size _ _
  have hs0 : (msgA (zeroRaw 9) nilS nilS nilS).size = 41 := arr_size _ _
  have ha0 : (msgA (zeroRaw 9) nilS nilS nilS).all (·.oneCell') = true := msg_all (zero_rd w (fun _ => False) 9)
  have hc0 : (msgA (zeroRaw 9) nilS nilS nilS)[2]? = some (.int .i64 0) := by kernel_rfl
  obtain ⟨M0, hM0⟩ : ∃ M0, msgA (zeroRaw 9) nilS nilS nilS = M0 := ⟨_, rfl⟩
  obtain ⟨M1, hM1⟩ : ∃ M1, msgA (numR 1 n) nilS nilS nilS = M1 := ⟨_, rfl⟩
  rw [hM0] at HZ1 hm1 hs0 ha0 hc0
  rw [hM1] at hm1 hs1 HW HS
  have HM1 := Lib.hid hm1
  have HS1 := Lib.hid hs1
  have HS0 := Lib.hid hs0
  have HA0 := Lib.hid ha0
  have HC0 := Lib.hid hc0
  clear hm1 hs1 hs0 ha0 hc0 hM0 hM1
  subst hnn
  have h0 : ¬ (N : Int) < 0 := by omega
  have d0 : decide ((N : Int) < 0) = false := decide_eq_false h0
  have h1 : ¬ 1099511627776 < (N : Int) := by omega
  have d1 : decide (1099511627776 < (N : Int)) = false := decide_eq_false h1
  go_enter Try.func8, Try.ntmps8
  go_wp2_with (first
    | (go_at_call 10; refine (packs_any _).mono ?_; rintro e w1 ⟨rfl, hb1⟩)
    | (guard_target = wpList _ _ _ _ _ _; refine wpList_build rfl 28 _ rfl (by kernel_rfl) ?_; simp only [List.map_toArray, List.map_cons, List.map_nil, Act.eval]; rw [HZ1.out])
    | (guard_target = wpList _ _ _ _ _ _; refine wpList_store_arrW rfl 28 _ _ rfl w1.heap.size M0 rfl rfl 28 _ (Blk.new _ _ _) (by rw [HS0.out]; kernel_rfl) (by rw [HS0.out]; rfl) HA0.out ?_; intro W2 hS2 hz2 hb2 ho2; have hw2 := hb1.trans ((((Below.refl _ w1).alloc (Nat.le_refl _) _).trans hb2).mono hb1.size); have hl2 := hS2.lt; have hC : ∀ ob, (W2.alloc ob).cell? ⟨w1.heap.size, 2, none⟩ = some (.int .i64 0) := fun ob => ((hS2.alloc ob).cell 2).trans HC0.out; have hFz : ∀ ob, (W2.alloc ob).frozen? ⟨w1.heap.size, 2, none⟩ = false := fun ob => (hS2.alloc ob).frozen 2; have HSET : Hid (∀ ob, Blk ((W2.alloc ob).setCell ⟨w1.heap.size, 2, none⟩ (.int .i64 (N : Int))) w1.heap.size 28 M1 ∧ Below w.heap.size w ((W2.alloc ob).setCell ⟨w1.heap.size, 2, none⟩ (.int .i64 (N : Int)))) := Lib.hid fun ob => ⟨((hS2.alloc ob).store 2 _).same HM1.out, (hw2.alloc hw2.size _).setCell hb1.size _⟩; clear hS2 hz2 hb2 ho2 hw2 hl2)
    | (guard_target = wpList _ _ _ (Oper.mk _ (.load 28 _) _ _ _ _ :: _) _ _; refine gen_world (Fa := fun W => Blk W w1.heap.size 28 M1 ∧ Below w.heap.size w W) (HSET.out _) (fun W3 hF => ?_); obtain ⟨hS3, hw3⟩ := hF; refine wpList_load_row rfl 28 _ rfl w1.heap.size rfl 28 M1 (0, 0) _ hS3 Try.underlying28 rfl (by rw [HS1.out]; kernel_rfl) ?_; clear hC hFz HSET)
    | (go_at_call 11; refine (HW.out _).mono ?_; rintro e w4 ⟨g, L, cap, rfl, hn, hown, hb4⟩; have hw4 := hw3.trans (hb4.mono hw3.size); have hS4 := hS3.below hb4 hS3.lt; have hrd := own_rd hown (hn.trans HLB.out.1.symm) (by have := HLB.out; omega); have HRD := Lib.hid (hrd.mono (ok' := fun b => b < w4.heap.size) fun b hb => hb.2); have HLN : Hid (L = LL) := Lib.hid hn; have HW4 := Lib.hid (And.intro hw4 hS4); clear hown hrd hn hb4 hw3 hS3 hw4 hS4))
  clear h0 d0 h1 d1
  go_loopw [9, 10] (fun c v wr => ∃ (x k : Nat), x ≤ N ∧ k ≤ 6 ∧ c = .int .i64 (k : Int) ∧ v = .int .i64 (x : Int) ∧ (digits x).length + k = D ∧ wr = w4) (fun _ v _ => (intOf v).toNat)
  case atStart => exact ⟨N, 0, Nat.le_refl _, by omega, rfl, rfl, by rw [HD.out]; rfl, by trivial⟩
  case round =>
    obtain ⟨x, k, hx, hk, rfl, rfl, hd, rfl⟩ := hrel
    by_cases hx0 : 0 < x
    · have hx1 : (0 : Int) < (x : Int) := by omega
      have hx2 : (x : Int) ≤ 1099511627776 := by omega
      have hk6 : (k : Int) ≤ 6 := by omega
      rw [digits_pos hx0, List.length_append, List.length_singleton] at hd
      go_wp2
      go_roundw
      case rel => exact ⟨x / 256, k + 1, by omega, by omega, by go_num, by go_num, by omega, by trivial⟩
      case measure => simp [intOf]; omega
    · obtain rfl : x = 0 := by omega
      rw [digits_zero, List.length_nil, Nat.zero_add] at hd
      subst hd
      clear hx hx0
      have hL := HLB.out.2.2.2
      rw [← HLN.out] at hL
      have HRDx := HRD.out
      have e0 : LL = L := HLN.out.symm
      subst e0
      by_cases hk0 : k = 0
      · subst hk0
        rw [if_pos rfl] at hL
        subst hL
        go_wp2_with (first
          | (go_at_call 13; refine (HR.out _ _ _ HRD.out).mono ?_; rintro e w5 ⟨⟨d2, i2, l2, rfl, hR5⟩, hb5⟩; have hw5 := HW4.out.1.trans (hb5.mono HW4.out.1.size); have hS5 := HW4.out.2.below hb5 HW4.out.2.lt; have ha2 := msg_all hR5; have hs2 : (msgA r2 d2 i2 l2).size = 41 := arr_size _ _; have HS2 := Lib.hid (HS.out d2 i2 l2); have HR5 := Lib.hid hR5; generalize msgA r2 d2 i2 l2 = M2 at hs2 ha2 HS2 ⊢; clear hR5 hb5)
          | (guard_target = wpList _ _ _ _ _ _; refine wpList_store_arrW rfl 28 _ _ rfl w5.heap.size M2 rfl rfl 28 _ (Blk.new _ _ _) (by rw [hs2]; kernel_rfl) (by rw [hs2]; rfl) ha2 ?_; intro W9 hS9 hz9 hb9 ho9; have old : ∀ b, b < w5.heap.size → W9.heap[b]? = w5.heap[b]? := fun b hb => (ho9 b (by omega)).trans (Below.heap_alloc w5 _ b hb); have hx9 : Blk W9 w1.heap.size 28 M1 := (old _ hS5.lt).trans hS5; have hR9 := (HR5.out.kept (W' := W9) fun a x ha h => (World.cell?_of_block (old a.block ha.2)).trans h).mono (ok' := fun b => b < W9.heap.size) (fun b hb => by have := hb.2; rw [hz9]; simp; omega); have HSM := Lib.hid (HS2.out W9 hR9); have HW9 := Lib.hid (hw5.trans ((((Below.refl _ w5).alloc (Nat.le_refl _) _).trans hb9).mono hw5.size)); clear old hR9 hz9 hb9 ho9 hw5 hS5)
          | (guard_target = wpList _ _ _ _ _ _; refine wpList_load_blkG (by rfl) 28 _ rfl w5.heap.size rfl 28 M2 _ hS9 Try.underlying28 rfl (by rw [hs2]; kernel_rfl) ?_)
          | (guard_target = wpList _ _ _ _ _ _; refine wpList_load_blkG (by rfl) 28 _ rfl w1.heap.size rfl 28 M1 _ hx9 Try.underlying28 rfl (by rw [HS1.out]; kernel_rfl) ?_)
          | (go_at_call 15; refine HSM.out.mono ?_; rintro e w6 ⟨rfl, hb6⟩; have HW6 := Lib.hid (HW9.out.trans (hb6.mono HW9.out.size)); clear hb6))
        go_ret
        exact ⟨rfl, HW6.out⟩
      · rw [if_neg hk0] at hL
        have hkp : (0 : Int) < (k : Int) := by omega
        have hk6 : (k : Int) ≤ 6 := by omega
        have hLe : ((LL : Nat) : Int) = 5 + (k : Int) := by omega
        clear hL hk0
        go_wp2_with (first
          | (go_at_call 13; refine (HR.out _ _ _ HRD.out).mono ?_; rintro e w5 ⟨⟨d2, i2, l2, rfl, hR5⟩, hb5⟩; have hw5 := HW4.out.1.trans (hb5.mono HW4.out.1.size); have hS5 := HW4.out.2.below hb5 HW4.out.2.lt; have ha2 := msg_all hR5; have hs2 : (msgA r2 d2 i2 l2).size = 41 := arr_size _ _; have HS2 := Lib.hid (HS.out d2 i2 l2); have HR5 := Lib.hid hR5; generalize msgA r2 d2 i2 l2 = M2 at hs2 ha2 HS2 ⊢; clear hR5 hb5)
          | (guard_target = wpList _ _ _ _ _ _; refine wpList_store_arrW rfl 28 _ _ rfl w5.heap.size M2 rfl rfl 28 _ (Blk.new _ _ _) (by rw [hs2]; kernel_rfl) (by rw [hs2]; rfl) ha2 ?_; intro W9 hS9 hz9 hb9 ho9; have old : ∀ b, b < w5.heap.size → W9.heap[b]? = w5.heap[b]? := fun b hb => (ho9 b (by omega)).trans (Below.heap_alloc w5 _ b hb); have hx9 : Blk W9 w1.heap.size 28 M1 := (old _ hS5.lt).trans hS5; have hR9 := (HR5.out.kept (W' := W9) fun a x ha h => (World.cell?_of_block (old a.block ha.2)).trans h).mono (ok' := fun b => b < W9.heap.size) (fun b hb => by have := hb.2; rw [hz9]; simp; omega); have HSM := Lib.hid (HS2.out W9 hR9); have HW9 := Lib.hid (hw5.trans ((((Below.refl _ w5).alloc (Nat.le_refl _) _).trans hb9).mono hw5.size)); clear old hR9 hz9 hb9 ho9 hw5 hS5)
          | (guard_target = wpList _ _ _ _ _ _; refine wpList_load_blkG (by rfl) 28 _ rfl w5.heap.size rfl 28 M2 _ hS9 Try.underlying28 rfl (by rw [hs2]; kernel_rfl) ?_)
          | (guard_target = wpList _ _ _ _ _ _; refine wpList_load_blkG (by rfl) 28 _ rfl w1.heap.size rfl 28 M1 _ hx9 Try.underlying28 rfl (by rw [HS1.out]; kernel_rfl) ?_)
          | (go_at_call 15; refine HSM.out.mono ?_; rintro e w6 ⟨rfl, hb6⟩; have HW6 := Lib.hid (HW9.out.trans (hb6.mono HW9.out.size)); clear hb6))
        go_ret
        exact ⟨rfl, HW6.out⟩
set_option maxRecDepth 100000 in
set_option maxHeartbeats 4000000 in
theorem nums_bad2 (n : Int) (hn : n < 0 ∨ 1099511627776 < n) (w : World) :
    Calls Try.prog 8 #[.int .i64 2, .int .i64 n] w fun e w' => e = .returned (.bool true) ∧ Below w.heap.size w w' := by
  have HZ1 := Lib.hid (built_msg1 9)
  have hm1 := num_set2 n
  have hs1 : (msgA (numR 2 n) nilS nilS nilS).size = 41 := arr_size _ _
  have hs0 : (msgA (zeroRaw 9) nilS nilS nilS).size = 41 := arr_size _ _
  have ha0 : (msgA (zeroRaw 9) nilS nilS nilS).all (·.oneCell') = true := msg_all (zero_rd w (fun _ => False) 9)
  have hc0 : (msgA (zeroRaw 9) nilS nilS nilS)[3]? = some (.int .i64 0) := by kernel_rfl
  have HW : Hid (∀ W, Calls Try.prog 11 #[.agg (msgA (numR 2 n) nilS nilS nilS)] W fun e w' => e = .returned (.tuple #[.slice none 0 0, .int .i64 1]) ∧ Below W.heap.size W w') := Lib.hid fun W => by
    have := write_no (numR 2 n) (fun h => by have := (Raw.fit_iff _).2 h; rw [num_unfit2 n hn] at this; cases this) nilS nilS nilS W (num_rd2 n _ _)
    rw [num_unfit2 n hn] at this
    exact this
  obtain ⟨M0, hM0⟩ : ∃ M0, msgA (zeroRaw 9) nilS nilS nilS = M0 := ⟨_, rfl⟩
  obtain ⟨M1, hM1⟩ : ∃ M1, msgA (numR 2 n) nilS nilS nilS = M1 := ⟨_, rfl⟩
  rw [hM0] at HZ1 hm1 hs0 ha0 hc0
  rw [hM1] at hm1 hs1 HW
  have HM1 := Lib.hid hm1
  have HS1 := Lib.hid hs1
  have HS0 := Lib.hid hs0
  have HA0 := Lib.hid ha0
  have HC0 := Lib.hid hc0
  clear hm1 hs1 hs0 ha0 hc0 hM0 hM1
  by_cases h0 : n < 0
  · clear hn
    go_enter Try.func8, Try.ntmps8
    go_wp2_with (first
      | (go_at_call 10; refine (packs_any _).mono ?_; rintro e w1 ⟨rfl, hb1⟩)
      | (guard_target = wpList _ _ _ _ _ _; refine wpList_build rfl 28 _ rfl (by kernel_rfl) ?_; simp only [List.map_toArray, List.map_cons, List.map_nil, Act.eval]; rw [HZ1.out])
      | (guard_target = wpList _ _ _ _ _ _; refine wpList_store_arrW rfl 28 _ _ rfl w1.heap.size M0 rfl rfl 28 _ (Blk.new _ _ _) (by rw [HS0.out]; kernel_rfl) (by rw [HS0.out]; rfl) HA0.out ?_; intro W2 hS2 hz2 hb2 ho2; have hw2 := hb1.trans ((((Below.refl _ w1).alloc (Nat.le_refl _) _).trans hb2).mono hb1.size); have hl2 := hS2.lt; have hC : ∀ ob, (W2.alloc ob).cell? ⟨w1.heap.size, 3, none⟩ = some (.int .i64 0) := fun ob => ((hS2.alloc ob).cell 3).trans HC0.out; have hFz : ∀ ob, (W2.alloc ob).frozen? ⟨w1.heap.size, 3, none⟩ = false := fun ob => (hS2.alloc ob).frozen 3; have HSET : Hid (∀ ob, Blk ((W2.alloc ob).setCell ⟨w1.heap.size, 3, none⟩ (.int .i64 n)) w1.heap.size 28 M1 ∧ Below w.heap.size w ((W2.alloc ob).setCell ⟨w1.heap.size, 3, none⟩ (.int .i64 n))) := Lib.hid fun ob => ⟨((hS2.alloc ob).store 3 _).same HM1.out, (hw2.alloc hw2.size _).setCell hb1.size _⟩; clear hS2 hz2 hb2 ho2 hw2 hl2)
      | (guard_target = wpList _ _ _ (Oper.mk _ (.load 28 _) _ _ _ _ :: _) _ _; refine gen_world (Fa := fun W => Blk W w1.heap.size 28 M1 ∧ Below w.heap.size w W) (HSET.out _) (fun W3 hF => ?_); obtain ⟨hS3, hw3⟩ := hF; refine wpList_load_row rfl 28 _ rfl w1.heap.size rfl 28 M1 (0, 0) _ hS3 Try.underlying28 rfl (by rw [HS1.out]; kernel_rfl) ?_; clear hC hFz HSET)
      | (go_at_call 11; refine (HW.out _).mono ?_; rintro e w4 ⟨rfl, hb4⟩; have HW4 := Lib.hid (hw3.trans (hb4.mono hw3.size)); clear hb4 hw3 hS3))
    go_ret
    exact ⟨rfl, HW4.out⟩
  · have h1 : 1099511627776 < n := by omega
    have d0 : decide (n < 0) = false := decide_eq_false h0
    clear hn
    go_enter Try.func8, Try.ntmps8
    go_wp2_with (first
      | (go_at_call 10; refine (packs_any _).mono ?_; rintro e w1 ⟨rfl, hb1⟩)
      | (guard_target = wpList _ _ _ _ _ _; refine wpList_build rfl 28 _ rfl (by kernel_rfl) ?_; simp only [List.map_toArray, List.map_cons, List.map_nil, Act.eval]; rw [HZ1.out])
      | (guard_target = wpList _ _ _ _ _ _; refine wpList_store_arrW rfl 28 _ _ rfl w1.heap.size M0 rfl rfl 28 _ (Blk.new _ _ _) (by rw [HS0.out]; kernel_rfl) (by rw [HS0.out]; rfl) HA0.out ?_; intro W2 hS2 hz2 hb2 ho2; have hw2 := hb1.trans ((((Below.refl _ w1).alloc (Nat.le_refl _) _).trans hb2).mono hb1.size); have hl2 := hS2.lt; have hC : ∀ ob, (W2.alloc ob).cell? ⟨w1.heap.size, 3, none⟩ = some (.int .i64 0) := fun ob => ((hS2.alloc ob).cell 3).trans HC0.out; have hFz : ∀ ob, (W2.alloc ob).frozen? ⟨w1.heap.size, 3, none⟩ = false := fun ob => (hS2.alloc ob).frozen 3; have HSET : Hid (∀ ob, Blk ((W2.alloc ob).setCell ⟨w1.heap.size, 3, none⟩ (.int .i64 n)) w1.heap.size 28 M1 ∧ Below w.heap.size w ((W2.alloc ob).setCell ⟨w1.heap.size, 3, none⟩ (.int .i64 n))) := Lib.hid fun ob => ⟨((hS2.alloc ob).store 3 _).same HM1.out, (hw2.alloc hw2.size _).setCell hb1.size _⟩; clear hS2 hz2 hb2 ho2 hw2 hl2)
      | (guard_target = wpList _ _ _ (Oper.mk _ (.load 28 _) _ _ _ _ :: _) _ _; refine gen_world (Fa := fun W => Blk W w1.heap.size 28 M1 ∧ Below w.heap.size w W) (HSET.out _) (fun W3 hF => ?_); obtain ⟨hS3, hw3⟩ := hF; refine wpList_load_row rfl 28 _ rfl w1.heap.size rfl 28 M1 (0, 0) _ hS3 Try.underlying28 rfl (by rw [HS1.out]; kernel_rfl) ?_; clear hC hFz HSET)
      | (go_at_call 11; refine (HW.out _).mono ?_; rintro e w4 ⟨rfl, hb4⟩; have HW4 := Lib.hid (hw3.trans (hb4.mono hw3.size)); clear hb4 hw3 hS3))
    go_ret
    exact ⟨rfl, HW4.out⟩
set_option maxRecDepth 100000 in
set_option maxHeartbeats 4000000 in
theorem nums_good2 (N : Nat) (hn : N ≤ 1099511627776) (w : World) :
    Calls Try.prog 8 #[.int .i64 2, .int .i64 (N : Int)] w fun e w' => e = .returned (.bool true) ∧ Below w.heap.size w w' := by
  obtain ⟨n, hnn⟩ : ∃ n : Int, (N : Int) = n := ⟨_, rfl⟩
  have hf := num_fit2 N hn
  have hll := num_len2 N
  have hpos := writeM_pos (numR 2 (N : Int)).m
  have hup := write_len hf.ok
  obtain ⟨r2, hrp, hrm, hrn⟩ := readP_write hf
  have hlk := like_of hrm hrn hf.nn
  have HR := Lib.hid (read_ok hrp)
  have HW := Lib.hid fun W => callsIn_wide.1 (write_ok _ hf nilS nilS nilS W (num_rd2 _ _ _))
  have HS := Lib.hid fun d2 i2 l2 W hr2 => same_yes hlk d2 i2 l2 nilS nilS nilS W hr2 (num_rd2 _ _ _)
  obtain ⟨bs, hbs⟩ : ∃ bs, writeM (numR 2 (N : Int)).m = bs := ⟨_, rfl⟩
  rw [hbs] at HR HW hll hpos hup
  obtain ⟨LL, hLL⟩ : ∃ LL, bs.length = LL := ⟨_, rfl⟩
  rw [hLL] at HR HW hll hpos hup
  obtain ⟨D, hD⟩ : ∃ D, (digits N).length = D := ⟨_, rfl⟩
  rw [hD] at hll
  have hD6 : D ≤ 6 := by rw [← hD]; exact digits_length 6 N (by omega)
  have HLB := Lib.hid (And.intro hLL (And.intro hpos (And.intro hup hll)))
  have HD := Lib.hid hD
  clear hf hrp hrm hrn hlk hbs hLL hll hpos hup hD
  rw [hnn] at HW HS
  have HZ1 := Lib.hid (built_msg1 9)
  have hm1 := num_set2 n
  have hs1 : (msgA (numR 2 n) nilS nilS nilS).size = 41 := arr_size _ _
  have hs0 : (msgA (zeroRaw 9) nilS nilS nilS).size = 41 := arr_size _ _
  have ha0 : (msgA (zeroRaw 9) nilS nilS nilS).all (·.oneCell') = true := msg_all (zero_rd w (fun _ => False) 9)
  have hc0 : (msgA (zeroRaw 9) nilS nilS nilS)[3]? = some (.int .i64 0) := by kernel_rfl
  obtain ⟨M0, hM0⟩ : ∃ M0, msgA (zeroRaw 9) nilS nilS nilS = M0 := ⟨_, rfl⟩
  obtain ⟨M1, hM1⟩ : ∃ M1, msgA (numR 2 n) nilS nilS nilS = M1 := ⟨_, rfl⟩
  rw [hM0] at HZ1 hm1 hs0 ha0 hc0
  rw [hM1] at hm1 hs1 HW HS
  have HM1 := Lib.hid hm1
  have HS1 := Lib.hid hs1
  have HS0 := Lib.hid hs0
  have HA0 := Lib.hid ha0
  have HC0 := Lib.hid hc0
  clear hm1 hs1 hs0 ha0 hc0 hM0 hM1
  subst hnn
  have h0 : ¬ (N : Int) < 0 := by omega
  have d0 : decide ((N : Int) < 0) = false := decide_eq_false h0
  have h1 : ¬ 1099511627776 < (N : Int) := by omega
  have d1 : decide (1099511627776 < (N : Int)) = false := decide_eq_false h1
  go_enter Try.func8, Try.ntmps8
  go_wp2_with (first
    | (go_at_call 10; refine (packs_any _).mono ?_; rintro e w1 ⟨rfl, hb1⟩)
    | (guard_target = wpList _ _ _ _ _ _; refine wpList_build rfl 28 _ rfl (by kernel_rfl) ?_; simp only [List.map_toArray, List.map_cons, List.map_nil, Act.eval]; rw [HZ1.out])
    | (guard_target = wpList _ _ _ _ _ _; refine wpList_store_arrW rfl 28 _ _ rfl w1.heap.size M0 rfl rfl 28 _ (Blk.new _ _ _) (by rw [HS0.out]; kernel_rfl) (by rw [HS0.out]; rfl) HA0.out ?_; intro W2 hS2 hz2 hb2 ho2; have hw2 := hb1.trans ((((Below.refl _ w1).alloc (Nat.le_refl _) _).trans hb2).mono hb1.size); have hl2 := hS2.lt; have hC : ∀ ob, (W2.alloc ob).cell? ⟨w1.heap.size, 3, none⟩ = some (.int .i64 0) := fun ob => ((hS2.alloc ob).cell 3).trans HC0.out; have hFz : ∀ ob, (W2.alloc ob).frozen? ⟨w1.heap.size, 3, none⟩ = false := fun ob => (hS2.alloc ob).frozen 3; have HSET : Hid (∀ ob, Blk ((W2.alloc ob).setCell ⟨w1.heap.size, 3, none⟩ (.int .i64 (N : Int))) w1.heap.size 28 M1 ∧ Below w.heap.size w ((W2.alloc ob).setCell ⟨w1.heap.size, 3, none⟩ (.int .i64 (N : Int)))) := Lib.hid fun ob => ⟨((hS2.alloc ob).store 3 _).same HM1.out, (hw2.alloc hw2.size _).setCell hb1.size _⟩; clear hS2 hz2 hb2 ho2 hw2 hl2)
    | (guard_target = wpList _ _ _ (Oper.mk _ (.load 28 _) _ _ _ _ :: _) _ _; refine gen_world (Fa := fun W => Blk W w1.heap.size 28 M1 ∧ Below w.heap.size w W) (HSET.out _) (fun W3 hF => ?_); obtain ⟨hS3, hw3⟩ := hF; refine wpList_load_row rfl 28 _ rfl w1.heap.size rfl 28 M1 (0, 0) _ hS3 Try.underlying28 rfl (by rw [HS1.out]; kernel_rfl) ?_; clear hC hFz HSET)
    | (go_at_call 11; refine (HW.out _).mono ?_; rintro e w4 ⟨g, L, cap, rfl, hn, hown, hb4⟩; have hw4 := hw3.trans (hb4.mono hw3.size); have hS4 := hS3.below hb4 hS3.lt; have hrd := own_rd hown (hn.trans HLB.out.1.symm) (by have := HLB.out; omega); have HRD := Lib.hid (hrd.mono (ok' := fun b => b < w4.heap.size) fun b hb => hb.2); have HLN : Hid (L = LL) := Lib.hid hn; have HW4 := Lib.hid (And.intro hw4 hS4); clear hown hrd hn hb4 hw3 hS3 hw4 hS4))
  clear h0 d0 h1 d1
  go_loopw [9, 10] (fun c v wr => ∃ (x k : Nat), x ≤ N ∧ k ≤ 6 ∧ c = .int .i64 (k : Int) ∧ v = .int .i64 (x : Int) ∧ (digits x).length + k = D ∧ wr = w4) (fun _ v _ => (intOf v).toNat)
  case atStart => exact ⟨N, 0, Nat.le_refl _, by omega, rfl, rfl, by rw [HD.out]; rfl, by trivial⟩
  case round =>
    obtain ⟨x, k, hx, hk, rfl, rfl, hd, rfl⟩ := hrel
    by_cases hx0 : 0 < x
    · have hx1 : (0 : Int) < (x : Int) := by omega
      have hx2 : (x : Int) ≤ 1099511627776 := by omega
      have hk6 : (k : Int) ≤ 6 := by omega
      rw [digits_pos hx0, List.length_append, List.length_singleton] at hd
      go_wp2
      go_roundw
      case rel => exact ⟨x / 256, k + 1, by omega, by omega, by go_num, by go_num, by omega, by trivial⟩
      case measure => simp [intOf]; omega
    · obtain rfl : x = 0 := by omega
      rw [digits_zero, List.length_nil, Nat.zero_add] at hd
      subst hd
      clear hx hx0
      have hL := HLB.out.2.2.2
      rw [← HLN.out] at hL
      have HRDx := HRD.out
      have e0 : LL = L := HLN.out.symm
      subst e0
      by_cases hk0 : k = 0
      · subst hk0
        rw [if_pos rfl] at hL
        subst hL
        go_wp2_with (first
          | (go_at_call 13; refine (HR.out _ _ _ HRD.out).mono ?_; rintro e w5 ⟨⟨d2, i2, l2, rfl, hR5⟩, hb5⟩; have hw5 := HW4.out.1.trans (hb5.mono HW4.out.1.size); have hS5 := HW4.out.2.below hb5 HW4.out.2.lt; have ha2 := msg_all hR5; have hs2 : (msgA r2 d2 i2 l2).size = 41 := arr_size _ _; have HS2 := Lib.hid (HS.out d2 i2 l2); have HR5 := Lib.hid hR5; generalize msgA r2 d2 i2 l2 = M2 at hs2 ha2 HS2 ⊢; clear hR5 hb5)
          | (guard_target = wpList _ _ _ _ _ _; refine wpList_store_arrW rfl 28 _ _ rfl w5.heap.size M2 rfl rfl 28 _ (Blk.new _ _ _) (by rw [hs2]; kernel_rfl) (by rw [hs2]; rfl) ha2 ?_; intro W9 hS9 hz9 hb9 ho9; have old : ∀ b, b < w5.heap.size → W9.heap[b]? = w5.heap[b]? := fun b hb => (ho9 b (by omega)).trans (Below.heap_alloc w5 _ b hb); have hx9 : Blk W9 w1.heap.size 28 M1 := (old _ hS5.lt).trans hS5; have hR9 := (HR5.out.kept (W' := W9) fun a x ha h => (World.cell?_of_block (old a.block ha.2)).trans h).mono (ok' := fun b => b < W9.heap.size) (fun b hb => by have := hb.2; rw [hz9]; simp; omega); have HSM := Lib.hid (HS2.out W9 hR9); have HW9 := Lib.hid (hw5.trans ((((Below.refl _ w5).alloc (Nat.le_refl _) _).trans hb9).mono hw5.size)); clear old hR9 hz9 hb9 ho9 hw5 hS5)
          | (guard_target = wpList _ _ _ _ _ _; refine wpList_load_blkG (by rfl) 28 _ rfl w5.heap.size rfl 28 M2 _ hS9 Try.underlying28 rfl (by rw [hs2]; kernel_rfl) ?_)
          | (guard_target = wpList _ _ _ _ _ _; refine wpList_load_blkG (by rfl) 28 _ rfl w1.heap.size rfl 28 M1 _ hx9 Try.underlying28 rfl (by rw [HS1.out]; kernel_rfl) ?_)
          | (go_at_call 15; refine HSM.out.mono ?_; rintro e w6 ⟨rfl, hb6⟩; have HW6 := Lib.hid (HW9.out.trans (hb6.mono HW9.out.size)); clear hb6))
        go_ret
        exact ⟨rfl, HW6.out⟩
      · rw [if_neg hk0] at hL
        have hkp : (0 : Int) < (k : Int) := by omega
        have hk6 : (k : Int) ≤ 6 := by omega
        have hLe : ((LL : Nat) : Int) = 5 + (k : Int) := by omega
        clear hL hk0
        go_wp2_with (first
          | (go_at_call 13; refine (HR.out _ _ _ HRD.out).mono ?_; rintro e w5 ⟨⟨d2, i2, l2, rfl, hR5⟩, hb5⟩; have hw5 := HW4.out.1.trans (hb5.mono HW4.out.1.size); have hS5 := HW4.out.2.below hb5 HW4.out.2.lt; have ha2 := msg_all hR5; have hs2 : (msgA r2 d2 i2 l2).size = 41 := arr_size _ _; have HS2 := Lib.hid (HS.out d2 i2 l2); have HR5 := Lib.hid hR5; generalize msgA r2 d2 i2 l2 = M2 at hs2 ha2 HS2 ⊢; clear hR5 hb5)
          | (guard_target = wpList _ _ _ _ _ _; refine wpList_store_arrW rfl 28 _ _ rfl w5.heap.size M2 rfl rfl 28 _ (Blk.new _ _ _) (by rw [hs2]; kernel_rfl) (by rw [hs2]; rfl) ha2 ?_; intro W9 hS9 hz9 hb9 ho9; have old : ∀ b, b < w5.heap.size → W9.heap[b]? = w5.heap[b]? := fun b hb => (ho9 b (by omega)).trans (Below.heap_alloc w5 _ b hb); have hx9 : Blk W9 w1.heap.size 28 M1 := (old _ hS5.lt).trans hS5; have hR9 := (HR5.out.kept (W' := W9) fun a x ha h => (World.cell?_of_block (old a.block ha.2)).trans h).mono (ok' := fun b => b < W9.heap.size) (fun b hb => by have := hb.2; rw [hz9]; simp; omega); have HSM := Lib.hid (HS2.out W9 hR9); have HW9 := Lib.hid (hw5.trans ((((Below.refl _ w5).alloc (Nat.le_refl _) _).trans hb9).mono hw5.size)); clear old hR9 hz9 hb9 ho9 hw5 hS5)
          | (guard_target = wpList _ _ _ _ _ _; refine wpList_load_blkG (by rfl) 28 _ rfl w5.heap.size rfl 28 M2 _ hS9 Try.underlying28 rfl (by rw [hs2]; kernel_rfl) ?_)
          | (guard_target = wpList _ _ _ _ _ _; refine wpList_load_blkG (by rfl) 28 _ rfl w1.heap.size rfl 28 M1 _ hx9 Try.underlying28 rfl (by rw [HS1.out]; kernel_rfl) ?_)
          | (go_at_call 15; refine HSM.out.mono ?_; rintro e w6 ⟨rfl, hb6⟩; have HW6 := Lib.hid (HW9.out.trans (hb6.mono HW9.out.size)); clear hb6))
        go_ret
        exact ⟨rfl, HW6.out⟩
set_option maxRecDepth 100000 in
set_option maxHeartbeats 4000000 in
theorem nums_bad3 (n : Int) (hn : n < 0 ∨ 1099511627776 < n) (w : World) :
    Calls Try.prog 8 #[.int .i64 3, .int .i64 n] w fun e w' => e = .returned (.bool true) ∧ Below w.heap.size w w' := by
  have HZ1 := Lib.hid (built_msg1 9)
  have hm1 := num_set3 n
  have hs1 : (msgA (numR 3 n) nilS nilS nilS).size = 41 := arr_size _ _
  have hs0 : (msgA (zeroRaw 9) nilS nilS nilS).size = 41 := arr_size _ _
  have ha0 : (msgA (zeroRaw 9) nilS nilS nilS).all (·.oneCell') = true := msg_all (zero_rd w (fun _ => False) 9)
  have hc0 : (msgA (zeroRaw 9) nilS nilS nilS)[4]? = some (.int .i64 0) := by kernel_rfl
  have HW : Hid (∀ W, Calls Try.prog 11 #[.agg (msgA (numR 3 n) nilS nilS nilS)] W fun e w' => e = .returned (.tuple #[.slice none 0 0, .int .i64 1]) ∧ Below W.heap.size W w') := Lib.hid fun W => by
    have := write_no (numR 3 n) (fun h => by have := (Raw.fit_iff _).2 h; rw [num_unfit3 n hn] at this; cases this) nilS nilS nilS W (num_rd3 n _ _)
    rw [num_unfit3 n hn] at this
    exact this
  obtain ⟨M0, hM0⟩ : ∃ M0, msgA (zeroRaw 9) nilS nilS nilS = M0 := ⟨_, rfl⟩
  obtain ⟨M1, hM1⟩ : ∃ M1, msgA (numR 3 n) nilS nilS nilS = M1 := ⟨_, rfl⟩
  rw [hM0] at HZ1 hm1 hs0 ha0 hc0
  rw [hM1] at hm1 hs1 HW
  have HM1 := Lib.hid hm1
  have HS1 := Lib.hid hs1
  have HS0 := Lib.hid hs0
  have HA0 := Lib.hid ha0
  have HC0 := Lib.hid hc0
  clear hm1 hs1 hs0 ha0 hc0 hM0 hM1
  by_cases h0 : n < 0
  · clear hn
    go_enter Try.func8, Try.ntmps8
    go_wp2_with (first
      | (go_at_call 10; refine (packs_any _).mono ?_; rintro e w1 ⟨rfl, hb1⟩)
      | (guard_target = wpList _ _ _ _ _ _; refine wpList_build rfl 28 _ rfl (by kernel_rfl) ?_; simp only [List.map_toArray, List.map_cons, List.map_nil, Act.eval]; rw [HZ1.out])
      | (guard_target = wpList _ _ _ _ _ _; refine wpList_store_arrW rfl 28 _ _ rfl w1.heap.size M0 rfl rfl 28 _ (Blk.new _ _ _) (by rw [HS0.out]; kernel_rfl) (by rw [HS0.out]; rfl) HA0.out ?_; intro W2 hS2 hz2 hb2 ho2; have hw2 := hb1.trans ((((Below.refl _ w1).alloc (Nat.le_refl _) _).trans hb2).mono hb1.size); have hl2 := hS2.lt; have hC : ∀ ob, (W2.alloc ob).cell? ⟨w1.heap.size, 4, none⟩ = some (.int .i64 0) := fun ob => ((hS2.alloc ob).cell 4).trans HC0.out; have hFz : ∀ ob, (W2.alloc ob).frozen? ⟨w1.heap.size, 4, none⟩ = false := fun ob => (hS2.alloc ob).frozen 4; have HSET : Hid (∀ ob, Blk ((W2.alloc ob).setCell ⟨w1.heap.size, 4, none⟩ (.int .i64 n)) w1.heap.size 28 M1 ∧ Below w.heap.size w ((W2.alloc ob).setCell ⟨w1.heap.size, 4, none⟩ (.int .i64 n))) := Lib.hid fun ob => ⟨((hS2.alloc ob).store 4 _).same HM1.out, (hw2.alloc hw2.size _).setCell hb1.size _⟩; clear hS2 hz2 hb2 ho2 hw2 hl2)
      | (guard_target = wpList _ _ _ (Oper.mk _ (.load 28 _) _ _ _ _ :: _) _ _; refine gen_world (Fa := fun W => Blk W w1.heap.size 28 M1 ∧ Below w.heap.size w W) (HSET.out _) (fun W3 hF => ?_); obtain ⟨hS3, hw3⟩ := hF; refine wpList_load_row rfl 28 _ rfl w1.heap.size rfl 28 M1 (0, 0) _ hS3 Try.underlying28 rfl (by rw [HS1.out]; kernel_rfl) ?_; clear hC hFz HSET)
      | (go_at_call 11; refine (HW.out _).mono ?_; rintro e w4 ⟨rfl, hb4⟩; have HW4 := Lib.hid (hw3.trans (hb4.mono hw3.size)); clear hb4 hw3 hS3))
    go_ret
    exact ⟨rfl, HW4.out⟩
  · have h1 : 1099511627776 < n := by omega
    have d0 : decide (n < 0) = false := decide_eq_false h0
    clear hn
    go_enter Try.func8, Try.ntmps8
    go_wp2_with (first
      | (go_at_call 10; refine (packs_any _).mono ?_; rintro e w1 ⟨rfl, hb1⟩)
      | (guard_target = wpList _ _ _ _ _ _; refine wpList_build rfl 28 _ rfl (by kernel_rfl) ?_; simp only [List.map_toArray, List.map_cons, List.map_nil, Act.eval]; rw [HZ1.out])
      | (guard_target = wpList _ _ _ _ _ _; refine wpList_store_arrW rfl 28 _ _ rfl w1.heap.size M0 rfl rfl 28 _ (Blk.new _ _ _) (by rw [HS0.out]; kernel_rfl) (by rw [HS0.out]; rfl) HA0.out ?_; intro W2 hS2 hz2 hb2 ho2; have hw2 := hb1.trans ((((Below.refl _ w1).alloc (Nat.le_refl _) _).trans hb2).mono hb1.size); have hl2 := hS2.lt; have hC : ∀ ob, (W2.alloc ob).cell? ⟨w1.heap.size, 4, none⟩ = some (.int .i64 0) := fun ob => ((hS2.alloc ob).cell 4).trans HC0.out; have hFz : ∀ ob, (W2.alloc ob).frozen? ⟨w1.heap.size, 4, none⟩ = false := fun ob => (hS2.alloc ob).frozen 4; have HSET : Hid (∀ ob, Blk ((W2.alloc ob).setCell ⟨w1.heap.size, 4, none⟩ (.int .i64 n)) w1.heap.size 28 M1 ∧ Below w.heap.size w ((W2.alloc ob).setCell ⟨w1.heap.size, 4, none⟩ (.int .i64 n))) := Lib.hid fun ob => ⟨((hS2.alloc ob).store 4 _).same HM1.out, (hw2.alloc hw2.size _).setCell hb1.size _⟩; clear hS2 hz2 hb2 ho2 hw2 hl2)
      | (guard_target = wpList _ _ _ (Oper.mk _ (.load 28 _) _ _ _ _ :: _) _ _; refine gen_world (Fa := fun W => Blk W w1.heap.size 28 M1 ∧ Below w.heap.size w W) (HSET.out _) (fun W3 hF => ?_); obtain ⟨hS3, hw3⟩ := hF; refine wpList_load_row rfl 28 _ rfl w1.heap.size rfl 28 M1 (0, 0) _ hS3 Try.underlying28 rfl (by rw [HS1.out]; kernel_rfl) ?_; clear hC hFz HSET)
      | (go_at_call 11; refine (HW.out _).mono ?_; rintro e w4 ⟨rfl, hb4⟩; have HW4 := Lib.hid (hw3.trans (hb4.mono hw3.size)); clear hb4 hw3 hS3))
    go_ret
    exact ⟨rfl, HW4.out⟩
set_option maxRecDepth 100000 in
set_option maxHeartbeats 4000000 in
theorem nums_good3 (N : Nat) (hn : N ≤ 1099511627776) (w : World) :
    Calls Try.prog 8 #[.int .i64 3, .int .i64 (N : Int)] w fun e w' => e = .returned (.bool true) ∧ Below w.heap.size w w' := by
  obtain ⟨n, hnn⟩ : ∃ n : Int, (N : Int) = n := ⟨_, rfl⟩
  have hf := num_fit3 N hn
  have hll := num_len3 N
  have hpos := writeM_pos (numR 3 (N : Int)).m
  have hup := write_len hf.ok
  obtain ⟨r2, hrp, hrm, hrn⟩ := readP_write hf
  have hlk := like_of hrm hrn hf.nn
  have HR := Lib.hid (read_ok hrp)
  have HW := Lib.hid fun W => callsIn_wide.1 (write_ok _ hf nilS nilS nilS W (num_rd3 _ _ _))
  have HS := Lib.hid fun d2 i2 l2 W hr2 => same_yes hlk d2 i2 l2 nilS nilS nilS W hr2 (num_rd3 _ _ _)
  obtain ⟨bs, hbs⟩ : ∃ bs, writeM (numR 3 (N : Int)).m = bs := ⟨_, rfl⟩
  rw [hbs] at HR HW hll hpos hup
  obtain ⟨LL, hLL⟩ : ∃ LL, bs.length = LL := ⟨_, rfl⟩
  rw [hLL] at HR HW hll hpos hup
  obtain ⟨D, hD⟩ : ∃ D, (digits N).length = D := ⟨_, rfl⟩
  rw [hD] at hll
  have hD6 : D ≤ 6 := by rw [← hD]; exact digits_length 6 N (by omega)
  have HLB := Lib.hid (And.intro hLL (And.intro hpos (And.intro hup hll)))
  have HD := Lib.hid hD
  clear hf hrp hrm hrn hlk hbs hLL hll hpos hup hD
  rw [hnn] at HW HS
  have HZ1 := Lib.hid (built_msg1 9)
  have hm1 := num_set3 n
  have hs1 : (msgA (numR 3 n) nilS nilS nilS).size = 41 := arr_size _ _
  have hs0 : (msgA (zeroRaw 9) nilS nilS nilS).size = 41 := arr_size _ _
  have ha0 : (msgA (zeroRaw 9) nilS nilS nilS).all (·.oneCell') = true := msg_all (zero_rd w (fun _ => False) 9)
  have hc0 : (msgA (zeroRaw 9) nilS nilS nilS)[4]? = some (.int .i64 0) := by kernel_rfl
  obtain ⟨M0, hM0⟩ : ∃ M0, msgA (zeroRaw 9) nilS nilS nilS = M0 := ⟨_, rfl⟩
  obtain ⟨M1, hM1⟩ : ∃ M1, msgA (numR 3 n) nilS nilS nilS = M1 := ⟨_, rfl⟩
  rw [hM0] at HZ1 hm1 hs0 ha0 hc0
  rw [hM1] at hm1 hs1 HW HS
  have HM1 := Lib.hid hm1
  have HS1 := Lib.hid hs1
  have HS0 := Lib.hid hs0
  have HA0 := Lib.hid ha0
  have HC0 := Lib.hid hc0
  clear hm1 hs1 hs0 ha0 hc0 hM0 hM1
  subst hnn
  have h0 : ¬ (N : Int) < 0 := by omega
  have d0 : decide ((N : Int) < 0) = false := decide_eq_false h0
  have h1 : ¬ 1099511627776 < (N : Int) := by omega
  have d1 : decide (1099511627776 < (N : Int)) = false := decide_eq_false h1
  go_enter Try.func8, Try.ntmps8
  go_wp2_with (first
    | (go_at_call 10; refine (packs_any _).mono ?_; rintro e w1 ⟨rfl, hb1⟩)
    | (guard_target = wpList _ _ _ _ _ _; refine wpList_build rfl 28 _ rfl (by kernel_rfl) ?_; simp only [List.map_toArray, List.map_cons, List.map_nil, Act.eval]; rw [HZ1.out])
    | (guard_target = wpList _ _ _ _ _ _; refine wpList_store_arrW rfl 28 _ _ rfl w1.heap.size M0 rfl rfl 28 _ (Blk.new _ _ _) (by rw [HS0.out]; kernel_rfl) (by rw [HS0.out]; rfl) HA0.out ?_; intro W2 hS2 hz2 hb2 ho2; have hw2 := hb1.trans ((((Below.refl _ w1).alloc (Nat.le_refl _) _).trans hb2).mono hb1.size); have hl2 := hS2.lt; have hC : ∀ ob, (W2.alloc ob).cell? ⟨w1.heap.size, 4, none⟩ = some (.int .i64 0) := fun ob => ((hS2.alloc ob).cell 4).trans HC0.out; have hFz : ∀ ob, (W2.alloc ob).frozen? ⟨w1.heap.size, 4, none⟩ = false := fun ob => (hS2.alloc ob).frozen 4; have HSET : Hid (∀ ob, Blk ((W2.alloc ob).setCell ⟨w1.heap.size, 4, none⟩ (.int .i64 (N : Int))) w1.heap.size 28 M1 ∧ Below w.heap.size w ((W2.alloc ob).setCell ⟨w1.heap.size, 4, none⟩ (.int .i64 (N : Int)))) := Lib.hid fun ob => ⟨((hS2.alloc ob).store 4 _).same HM1.out, (hw2.alloc hw2.size _).setCell hb1.size _⟩; clear hS2 hz2 hb2 ho2 hw2 hl2)
    | (guard_target = wpList _ _ _ (Oper.mk _ (.load 28 _) _ _ _ _ :: _) _ _; refine gen_world (Fa := fun W => Blk W w1.heap.size 28 M1 ∧ Below w.heap.size w W) (HSET.out _) (fun W3 hF => ?_); obtain ⟨hS3, hw3⟩ := hF; refine wpList_load_row rfl 28 _ rfl w1.heap.size rfl 28 M1 (0, 0) _ hS3 Try.underlying28 rfl (by rw [HS1.out]; kernel_rfl) ?_; clear hC hFz HSET)
    | (go_at_call 11; refine (HW.out _).mono ?_; rintro e w4 ⟨g, L, cap, rfl, hn, hown, hb4⟩; have hw4 := hw3.trans (hb4.mono hw3.size); have hS4 := hS3.below hb4 hS3.lt; have hrd := own_rd hown (hn.trans HLB.out.1.symm) (by have := HLB.out; omega); have HRD := Lib.hid (hrd.mono (ok' := fun b => b < w4.heap.size) fun b hb => hb.2); have HLN : Hid (L = LL) := Lib.hid hn; have HW4 := Lib.hid (And.intro hw4 hS4); clear hown hrd hn hb4 hw3 hS3 hw4 hS4))
  clear h0 d0 h1 d1
  go_loopw [9, 10] (fun c v wr => ∃ (x k : Nat), x ≤ N ∧ k ≤ 6 ∧ c = .int .i64 (k : Int) ∧ v = .int .i64 (x : Int) ∧ (digits x).length + k = D ∧ wr = w4) (fun _ v _ => (intOf v).toNat)
  case atStart => exact ⟨N, 0, Nat.le_refl _, by omega, rfl, rfl, by rw [HD.out]; rfl, by trivial⟩
  case round =>
    obtain ⟨x, k, hx, hk, rfl, rfl, hd, rfl⟩ := hrel
    by_cases hx0 : 0 < x
    · have hx1 : (0 : Int) < (x : Int) := by omega
      have hx2 : (x : Int) ≤ 1099511627776 := by omega
      have hk6 : (k : Int) ≤ 6 := by omega
      rw [digits_pos hx0, List.length_append, List.length_singleton] at hd
      go_wp2
      go_roundw
      case rel => exact ⟨x / 256, k + 1, by omega, by omega, by go_num, by go_num, by omega, by trivial⟩
      case measure => simp [intOf]; omega
    · obtain rfl : x = 0 := by omega
      rw [digits_zero, List.length_nil, Nat.zero_add] at hd
      subst hd
      clear hx hx0
      have hL := HLB.out.2.2.2
      rw [← HLN.out] at hL
      have HRDx := HRD.out
      have e0 : LL = L := HLN.out.symm
      subst e0
      by_cases hk0 : k = 0
      · subst hk0
        rw [if_pos rfl] at hL
        subst hL
        go_wp2_with (first
          | (go_at_call 13; refine (HR.out _ _ _ HRD.out).mono ?_; rintro e w5 ⟨⟨d2, i2, l2, rfl, hR5⟩, hb5⟩; have hw5 := HW4.out.1.trans (hb5.mono HW4.out.1.size); have hS5 := HW4.out.2.below hb5 HW4.out.2.lt; have ha2 := msg_all hR5; have hs2 : (msgA r2 d2 i2 l2).size = 41 := arr_size _ _; have HS2 := Lib.hid (HS.out d2 i2 l2); have HR5 := Lib.hid hR5; generalize msgA r2 d2 i2 l2 = M2 at hs2 ha2 HS2 ⊢; clear hR5 hb5)
          | (guard_target = wpList _ _ _ _ _ _; refine wpList_store_arrW rfl 28 _ _ rfl w5.heap.size M2 rfl rfl 28 _ (Blk.new _ _ _) (by rw [hs2]; kernel_rfl) (by rw [hs2]; rfl) ha2 ?_; intro W9 hS9 hz9 hb9 ho9; have old : ∀ b, b < w5.heap.size → W9.heap[b]? = w5.heap[b]? := fun b hb => (ho9 b (by omega)).trans (Below.heap_alloc w5 _ b hb); have hx9 : Blk W9 w1.heap.size 28 M1 := (old _ hS5.lt).trans hS5; have hR9 := (HR5.out.kept (W' := W9) fun a x ha h => (World.cell?_of_block (old a.block ha.2)).trans h).mono (ok' := fun b => b < W9.heap.size) (fun b hb => by have := hb.2; rw [hz9]; simp; omega); have HSM := Lib.hid (HS2.out W9 hR9); have HW9 := Lib.hid (hw5.trans ((((Below.refl _ w5).alloc (Nat.le_refl _) _).trans hb9).mono hw5.size)); clear old hR9 hz9 hb9 ho9 hw5 hS5)
          | (guard_target = wpList _ _ _ _ _ _; refine wpList_load_blkG (by rfl) 28 _ rfl w5.heap.size rfl 28 M2 _ hS9 Try.underlying28 rfl (by rw [hs2]; kernel_rfl) ?_)
          | (guard_target = wpList _ _ _ _ _ _; refine wpList_load_blkG (by rfl) 28 _ rfl w1.heap.size rfl 28 M1 _ hx9 Try.underlying28 rfl (by rw [HS1.out]; kernel_rfl) ?_)
          | (go_at_call 15; refine HSM.out.mono ?_; rintro e w6 ⟨rfl, hb6⟩; have HW6 := Lib.hid (HW9.out.trans (hb6.mono HW9.out.size)); clear hb6))
        go_ret
        exact ⟨rfl, HW6.out⟩
      · rw [if_neg hk0] at hL
        have hkp : (0 : Int) < (k : Int) := by omega
        have hk6 : (k : Int) ≤ 6 := by omega
        have hLe : ((LL : Nat) : Int) = 5 + (k : Int) := by omega
        clear hL hk0
        go_wp2_with (first
          | (go_at_call 13; refine (HR.out _ _ _ HRD.out).mono ?_; rintro e w5 ⟨⟨d2, i2, l2, rfl, hR5⟩, hb5⟩; have hw5 := HW4.out.1.trans (hb5.mono HW4.out.1.size); have hS5 := HW4.out.2.below hb5 HW4.out.2.lt; have ha2 := msg_all hR5; have hs2 : (msgA r2 d2 i2 l2).size = 41 := arr_size _ _; have HS2 := Lib.hid (HS.out d2 i2 l2); have HR5 := Lib.hid hR5; generalize msgA r2 d2 i2 l2 = M2 at hs2 ha2 HS2 ⊢; clear hR5 hb5)
          | (guard_target = wpList _ _ _ _ _ _; refine wpList_store_arrW rfl 28 _ _ rfl w5.heap.size M2 rfl rfl 28 _ (Blk.new _ _ _) (by rw [hs2]; kernel_rfl) (by rw [hs2]; rfl) ha2 ?_; intro W9 hS9 hz9 hb9 ho9; have old : ∀ b, b < w5.heap.size → W9.heap[b]? = w5.heap[b]? := fun b hb => (ho9 b (by omega)).trans (Below.heap_alloc w5 _ b hb); have hx9 : Blk W9 w1.heap.size 28 M1 := (old _ hS5.lt).trans hS5; have hR9 := (HR5.out.kept (W' := W9) fun a x ha h => (World.cell?_of_block (old a.block ha.2)).trans h).mono (ok' := fun b => b < W9.heap.size) (fun b hb => by have := hb.2; rw [hz9]; simp; omega); have HSM := Lib.hid (HS2.out W9 hR9); have HW9 := Lib.hid (hw5.trans ((((Below.refl _ w5).alloc (Nat.le_refl _) _).trans hb9).mono hw5.size)); clear old hR9 hz9 hb9 ho9 hw5 hS5)
          | (guard_target = wpList _ _ _ _ _ _; refine wpList_load_blkG (by rfl) 28 _ rfl w5.heap.size rfl 28 M2 _ hS9 Try.underlying28 rfl (by rw [hs2]; kernel_rfl) ?_)
          | (guard_target = wpList _ _ _ _ _ _; refine wpList_load_blkG (by rfl) 28 _ rfl w1.heap.size rfl 28 M1 _ hx9 Try.underlying28 rfl (by rw [HS1.out]; kernel_rfl) ?_)
          | (go_at_call 15; refine HSM.out.mono ?_; rintro e w6 ⟨rfl, hb6⟩; have HW6 := Lib.hid (HW9.out.trans (hb6.mono HW9.out.size)); clear hb6))
        go_ret
        exact ⟨rfl, HW6.out⟩
set_option maxRecDepth 100000 in
set_option maxHeartbeats 4000000 in
theorem nums_bad4 (n : Int) (hn : n < 0 ∨ 1099511627776 < n) (w : World) :
    Calls Try.prog 8 #[.int .i64 4, .int .i64 n] w fun e w' => e = .returned (.bool true) ∧ Below w.heap.size w w' := by
  have HZ1 := Lib.hid (built_msg1 9)
  have hm1 := num_set4 n
  have hs1 : (msgA (numR 4 n) nilS nilS nilS).size = 41 := arr_size _ _
  have hs0 : (msgA (zeroRaw 9) nilS nilS nilS).size = 41 := arr_size _ _
  have ha0 : (msgA (zeroRaw 9) nilS nilS nilS).all (·.oneCell') = true := msg_all (zero_rd w (fun _ => False) 9)
  have hc0 : (msgA (zeroRaw 9) nilS nilS nilS)[5]? = some (.int .i64 0) := by kernel_rfl
  have HW : Hid (∀ W, Calls Try.prog 11 #[.agg (msgA (numR 4 n) nilS nilS nilS)] W fun e w' => e = .returned (.tuple #[.slice none 0 0, .int .i64 1]) ∧ Below W.heap.size W w') := Lib.hid fun W => by
    have := write_no (numR 4 n) (fun h => by have := (Raw.fit_iff _).2 h; rw [num_unfit4 n hn] at this; cases this) nilS nilS nilS W (num_rd4 n _ _)
    rw [num_unfit4 n hn] at this
    exact this
  obtain ⟨M0, hM0⟩ : ∃ M0, msgA (zeroRaw 9) nilS nilS nilS = M0 := ⟨_, rfl⟩
  obtain ⟨M1, hM1⟩ : ∃ M1, msgA (numR 4 n) nilS nilS nilS = M1 := ⟨_, rfl⟩
  rw [hM0] at HZ1 hm1 hs0 ha0 hc0
  rw [hM1] at hm1 hs1 HW
  have HM1 := Lib.hid hm1
  have HS1 := Lib.hid hs1
  have HS0 := Lib.hid hs0
  have HA0 := Lib.hid ha0
  have HC0 := Lib.hid hc0
  clear hm1 hs1 hs0 ha0 hc0 hM0 hM1
  by_cases h0 : n < 0
  · clear hn
    go_enter Try.func8, Try.ntmps8
    go_wp2_with (first
      | (go_at_call 10; refine (packs_any _).mono ?_; rintro e w1 ⟨rfl, hb1⟩)
      | (guard_target = wpList _ _ _ _ _ _; refine wpList_build rfl 28 _ rfl (by kernel_rfl) ?_; simp only [List.map_toArray, List.map_cons, List.map_nil, Act.eval]; rw [HZ1.out])
      | (guard_target = wpList _ _ _ _ _ _; refine wpList_store_arrW rfl 28 _ _ rfl w1.heap.size M0 rfl rfl 28 _ (Blk.new _ _ _) (by rw [HS0.out]; kernel_rfl) (by rw [HS0.out]; rfl) HA0.out ?_; intro W2 hS2 hz2 hb2 ho2; have hw2 := hb1.trans ((((Below.refl _ w1).alloc (Nat.le_refl _) _).trans hb2).mono hb1.size); have hl2 := hS2.lt; have hC : ∀ ob, (W2.alloc ob).cell? ⟨w1.heap.size, 5, none⟩ = some (.int .i64 0) := fun ob => ((hS2.alloc ob).cell 5).trans HC0.out; have hFz : ∀ ob, (W2.alloc ob).frozen? ⟨w1.heap.size, 5, none⟩ = false := fun ob => (hS2.alloc ob).frozen 5; have HSET : Hid (∀ ob, Blk ((W2.alloc ob).setCell ⟨w1.heap.size, 5, none⟩ (.int .i64 n)) w1.heap.size 28 M1 ∧ Below w.heap.size w ((W2.alloc ob).setCell ⟨w1.heap.size, 5, none⟩ (.int .i64 n))) := Lib.hid fun ob => ⟨((hS2.alloc ob).store 5 _).same HM1.out, (hw2.alloc hw2.size _).setCell hb1.size _⟩; clear hS2 hz2 hb2 ho2 hw2 hl2)
      | (guard_target = wpList _ _ _ (Oper.mk _ (.load 28 _) _ _ _ _ :: _) _ _; refine gen_world (Fa := fun W => Blk W w1.heap.size 28 M1 ∧ Below w.heap.size w W) (HSET.out _) (fun W3 hF => ?_); obtain ⟨hS3, hw3⟩ := hF; refine wpList_load_row rfl 28 _ rfl w1.heap.size rfl 28 M1 (0, 0) _ hS3 Try.underlying28 rfl (by rw [HS1.out]; kernel_rfl) ?_; clear hC hFz HSET)
      | (go_at_call 11; refine (HW.out _).mono ?_; rintro e w4 ⟨rfl, hb4⟩; have HW4 := Lib.hid (hw3.trans (hb4.mono hw3.size)); clear hb4 hw3 hS3))
    go_ret
    exact ⟨rfl, HW4.out⟩
  · have h1 : 1099511627776 < n := by omega
    have d0 : decide (n < 0) = false := decide_eq_false h0
    clear hn
    go_enter Try.func8, Try.ntmps8
    go_wp2_with (first
      | (go_at_call 10; refine (packs_any _).mono ?_; rintro e w1 ⟨rfl, hb1⟩)
      | (guard_target = wpList _ _ _ _ _ _; refine wpList_build rfl 28 _ rfl (by kernel_rfl) ?_; simp only [List.map_toArray, List.map_cons, List.map_nil, Act.eval]; rw [HZ1.out])
      | (guard_target = wpList _ _ _ _ _ _; refine wpList_store_arrW rfl 28 _ _ rfl w1.heap.size M0 rfl rfl 28 _ (Blk.new _ _ _) (by rw [HS0.out]; kernel_rfl) (by rw [HS0.out]; rfl) HA0.out ?_; intro W2 hS2 hz2 hb2 ho2; have hw2 := hb1.trans ((((Below.refl _ w1).alloc (Nat.le_refl _) _).trans hb2).mono hb1.size); have hl2 := hS2.lt; have hC : ∀ ob, (W2.alloc ob).cell? ⟨w1.heap.size, 5, none⟩ = some (.int .i64 0) := fun ob => ((hS2.alloc ob).cell 5).trans HC0.out; have hFz : ∀ ob, (W2.alloc ob).frozen? ⟨w1.heap.size, 5, none⟩ = false := fun ob => (hS2.alloc ob).frozen 5; have HSET : Hid (∀ ob, Blk ((W2.alloc ob).setCell ⟨w1.heap.size, 5, none⟩ (.int .i64 n)) w1.heap.size 28 M1 ∧ Below w.heap.size w ((W2.alloc ob).setCell ⟨w1.heap.size, 5, none⟩ (.int .i64 n))) := Lib.hid fun ob => ⟨((hS2.alloc ob).store 5 _).same HM1.out, (hw2.alloc hw2.size _).setCell hb1.size _⟩; clear hS2 hz2 hb2 ho2 hw2 hl2)
      | (guard_target = wpList _ _ _ (Oper.mk _ (.load 28 _) _ _ _ _ :: _) _ _; refine gen_world (Fa := fun W => Blk W w1.heap.size 28 M1 ∧ Below w.heap.size w W) (HSET.out _) (fun W3 hF => ?_); obtain ⟨hS3, hw3⟩ := hF; refine wpList_load_row rfl 28 _ rfl w1.heap.size rfl 28 M1 (0, 0) _ hS3 Try.underlying28 rfl (by rw [HS1.out]; kernel_rfl) ?_; clear hC hFz HSET)
      | (go_at_call 11; refine (HW.out _).mono ?_; rintro e w4 ⟨rfl, hb4⟩; have HW4 := Lib.hid (hw3.trans (hb4.mono hw3.size)); clear hb4 hw3 hS3))
    go_ret
    exact ⟨rfl, HW4.out⟩
set_option maxRecDepth 100000 in
set_option maxHeartbeats 4000000 in
theorem nums_good4 (N : Nat) (hn : N ≤ 1099511627776) (w : World) :
    Calls Try.prog 8 #[.int .i64 4, .int .i64 (N : Int)] w fun e w' => e = .returned (.bool true) ∧ Below w.heap.size w w' := by
  obtain ⟨n, hnn⟩ : ∃ n : Int, (N : Int) = n := ⟨_, rfl⟩
  have hf := num_fit4 N hn
  have hll := num_len4 N
  have hpos := writeM_pos (numR 4 (N : Int)).m
  have hup := write_len hf.ok
  obtain ⟨r2, hrp, hrm, hrn⟩ := readP_write hf
  have hlk := like_of hrm hrn hf.nn
  have HR := Lib.hid (read_ok hrp)
  have HW := Lib.hid fun W => callsIn_wide.1 (write_ok _ hf nilS nilS nilS W (num_rd4 _ _ _))
  have HS := Lib.hid fun d2 i2 l2 W hr2 => same_yes hlk d2 i2 l2 nilS nilS nilS W hr2 (num_rd4 _ _ _)
  obtain ⟨bs, hbs⟩ : ∃ bs, writeM (numR 4 (N : Int)).m = bs := ⟨_, rfl⟩
  rw [hbs] at HR HW hll hpos hup
  obtain ⟨LL, hLL⟩ : ∃ LL, bs.length = LL := ⟨_, rfl⟩
  rw [hLL] at HR HW hll hpos hup
  obtain ⟨D, hD⟩ : ∃ D, (digits N).length = D := ⟨_, rfl⟩
  rw [hD] at hll
  have hD6 : D ≤ 6 := by rw [← hD]; exact digits_length 6 N (by omega)
  have HLB := Lib.hid (And.intro hLL (And.intro hpos (And.intro hup hll)))
  have HD := Lib.hid hD
  clear hf hrp hrm hrn hlk hbs hLL hll hpos hup hD
  rw [hnn] at HW HS
  have HZ1 := Lib.hid (built_msg1 9)
  have hm1 := num_set4 n
  have hs1 : (msgA (numR 4 n) nilS nilS nilS).size = 41 := arr_size _ _
  have hs0 : (msgA (zeroRaw 9) nilS nilS nilS).size = 41 := arr_size _ _
  have ha0 : (msgA (zeroRaw 9) nilS nilS nilS).all (·.oneCell') = true := msg_all (zero_rd w (fun _ => False) 9)
  have hc0 : (msgA (zeroRaw 9) nilS nilS nilS)[5]? = some (.int .i64 0) := by kernel_rfl
  obtain ⟨M0, hM0⟩ : ∃ M0, msgA (zeroRaw 9) nilS nilS nilS = M0 := ⟨_, rfl⟩
  obtain ⟨M1, hM1⟩ : ∃ M1, msgA (numR 4 n) nilS nilS nilS = M1 := ⟨_, rfl⟩
  rw [hM0] at HZ1 hm1 hs0 ha0 hc0
  rw [hM1] at hm1 hs1 HW HS
  have HM1 := Lib.hid hm1
  have HS1 := Lib.hid hs1
  have HS0 := Lib.hid hs0
  have HA0 := Lib.hid ha0
  have HC0 := Lib.hid hc0
  clear hm1 hs1 hs0 ha0 hc0 hM0 hM1
  subst hnn
  have h0 : ¬ (N : Int) < 0 := by omega
  have d0 : decide ((N : Int) < 0) = false := decide_eq_false h0
  have h1 : ¬ 1099511627776 < (N : Int) := by omega
  have d1 : decide (1099511627776 < (N : Int)) = false := decide_eq_false h1
  go_enter Try.func8, Try.ntmps8
  go_wp2_with (first
    | (go_at_call 10; refine (packs_any _).mono ?_; rintro e w1 ⟨rfl, hb1⟩)
    | (guard_target = wpList _ _ _ _ _ _; refine wpList_build rfl 28 _ rfl (by kernel_rfl) ?_; simp only [List.map_toArray, List.map_cons, List.map_nil, Act.eval]; rw [HZ1.out])
    | (guard_target = wpList _ _ _ _ _ _; refine wpList_store_arrW rfl 28 _ _ rfl w1.heap.size M0 rfl rfl 28 _ (Blk.new _ _ _) (by rw [HS0.out]; kernel_rfl) (by rw [HS0.out]; rfl) HA0.out ?_; intro W2 hS2 hz2 hb2 ho2; have hw2 := hb1.trans ((((Below.refl _ w1).alloc (Nat.le_refl _) _).trans hb2).mono hb1.size); have hl2 := hS2.lt; have hC : ∀ ob, (W2.alloc ob).cell? ⟨w1.heap.size, 5, none⟩ = some (.int .i64 0) := fun ob => ((hS2.alloc ob).cell 5).trans HC0.out; have hFz : ∀ ob, (W2.alloc ob).frozen? ⟨w1.heap.size, 5, none⟩ = false := fun ob => (hS2.alloc ob).frozen 5; have HSET : Hid (∀ ob, Blk ((W2.alloc ob).setCell ⟨w1.heap.size, 5, none⟩ (.int .i64 (N : Int))) w1.heap.size 28 M1 ∧ Below w.heap.size w ((W2.alloc ob).setCell ⟨w1.heap.size, 5, none⟩ (.int .i64 (N : Int)))) := Lib.hid fun ob => ⟨((hS2.alloc ob).store 5 _).same HM1.out, (hw2.alloc hw2.size _).setCell hb1.size _⟩; clear hS2 hz2 hb2 ho2 hw2 hl2)
    | (guard_target = wpList _ _ _ (Oper.mk _ (.load 28 _) _ _ _ _ :: _) _ _; refine gen_world (Fa := fun W => Blk W w1.heap.size 28 M1 ∧ Below w.heap.size w W) (HSET.out _) (fun W3 hF => ?_); obtain ⟨hS3, hw3⟩ := hF; refine wpList_load_row rfl 28 _ rfl w1.heap.size rfl 28 M1 (0, 0) _ hS3 Try.underlying28 rfl (by rw [HS1.out]; kernel_rfl) ?_; clear hC hFz HSET)
    | (go_at_call 11; refine (HW.out _).mono ?_; rintro e w4 ⟨g, L, cap, rfl, hn, hown, hb4⟩; have hw4 := hw3.trans (hb4.mono hw3.size); have hS4 := hS3.below hb4 hS3.lt; have hrd := own_rd hown (hn.trans HLB.out.1.symm) (by have := HLB.out; omega); have HRD := Lib.hid (hrd.mono (ok' := fun b => b < w4.heap.size) fun b hb => hb.2); have HLN : Hid (L = LL) := Lib.hid hn; have HW4 := Lib.hid (And.intro hw4 hS4); clear hown hrd hn hb4 hw3 hS3 hw4 hS4))
  clear h0 d0 h1 d1
  go_loopw [9, 10] (fun c v wr => ∃ (x k : Nat), x ≤ N ∧ k ≤ 6 ∧ c = .int .i64 (k : Int) ∧ v = .int .i64 (x : Int) ∧ (digits x).length + k = D ∧ wr = w4) (fun _ v _ => (intOf v).toNat)
  case atStart => exact ⟨N, 0, Nat.le_refl _, by omega, rfl, rfl, by rw [HD.out]; rfl, by trivial⟩
  case round =>
    obtain ⟨x, k, hx, hk, rfl, rfl, hd, rfl⟩ := hrel
    by_cases hx0 : 0 < x
    · have hx1 : (0 : Int) < (x : Int) := by omega
      have hx2 : (x : Int) ≤ 1099511627776 := by omega
      have hk6 : (k : Int) ≤ 6 := by omega
      rw [digits_pos hx0, List.length_append, List.length_singleton] at hd
      go_wp2
      go_roundw
      case rel => exact ⟨x / 256, k + 1, by omega, by omega, by go_num, by go_num, by omega, by trivial⟩
      case measure => simp [intOf]; omega
    · obtain rfl : x = 0 := by omega
      rw [digits_zero, List.length_nil, Nat.zero_add] at hd
      subst hd
      clear hx hx0
      have hL := HLB.out.2.2.2
      rw [← HLN.out] at hL
      have HRDx := HRD.out
      have e0 : LL = L := HLN.out.symm
      subst e0
      by_cases hk0 : k = 0
      · subst hk0
        rw [if_pos rfl] at hL
        subst hL
        go_wp2_with (first
          | (go_at_call 13; refine (HR.out _ _ _ HRD.out).mono ?_; rintro e w5 ⟨⟨d2, i2, l2, rfl, hR5⟩, hb5⟩; have hw5 := HW4.out.1.trans (hb5.mono HW4.out.1.size); have hS5 := HW4.out.2.below hb5 HW4.out.2.lt; have ha2 := msg_all hR5; have hs2 : (msgA r2 d2 i2 l2).size = 41 := arr_size _ _; have HS2 := Lib.hid (HS.out d2 i2 l2); have HR5 := Lib.hid hR5; generalize msgA r2 d2 i2 l2 = M2 at hs2 ha2 HS2 ⊢; clear hR5 hb5)
          | (guard_target = wpList _ _ _ _ _ _; refine wpList_store_arrW rfl 28 _ _ rfl w5.heap.size M2 rfl rfl 28 _ (Blk.new _ _ _) (by rw [hs2]; kernel_rfl) (by rw [hs2]; rfl) ha2 ?_; intro W9 hS9 hz9 hb9 ho9; have old : ∀ b, b < w5.heap.size → W9.heap[b]? = w5.heap[b]? := fun b hb => (ho9 b (by omega)).trans (Below.heap_alloc w5 _ b hb); have hx9 : Blk W9 w1.heap.size 28 M1 := (old _ hS5.lt).trans hS5; have hR9 := (HR5.out.kept (W' := W9) fun a x ha h => (World.cell?_of_block (old a.block ha.2)).trans h).mono (ok' := fun b => b < W9.heap.size) (fun b hb => by have := hb.2; rw [hz9]; simp; omega); have HSM := Lib.hid (HS2.out W9 hR9); have HW9 := Lib.hid (hw5.trans ((((Below.refl _ w5).alloc (Nat.le_refl _) _).trans hb9).mono hw5.size)); clear old hR9 hz9 hb9 ho9 hw5 hS5)
          | (guard_target = wpList _ _ _ _ _ _; refine wpList_load_blkG (by rfl) 28 _ rfl w5.heap.size rfl 28 M2 _ hS9 Try.underlying28 rfl (by rw [hs2]; kernel_rfl) ?_)
          | (guard_target = wpList _ _ _ _ _ _; refine wpList_load_blkG (by rfl) 28 _ rfl w1.heap.size rfl 28 M1 _ hx9 Try.underlying28 rfl (by rw [HS1.out]; kernel_rfl) ?_)
          | (go_at_call 15; refine HSM.out.mono ?_; rintro e w6 ⟨rfl, hb6⟩; have HW6 := Lib.hid (HW9.out.trans (hb6.mono HW9.out.size)); clear hb6))
        go_ret
        exact ⟨rfl, HW6.out⟩
      · rw [if_neg hk0] at hL
        have hkp : (0 : Int) < (k : Int) := by omega
        have hk6 : (k : Int) ≤ 6 := by omega
        have hLe : ((LL : Nat) : Int) = 5 + (k : Int) := by omega
        clear hL hk0
        go_wp2_with (first
          | (go_at_call 13; refine (HR.out _ _ _ HRD.out).mono ?_; rintro e w5 ⟨⟨d2, i2, l2, rfl, hR5⟩, hb5⟩; have hw5 := HW4.out.1.trans (hb5.mono HW4.out.1.size); have hS5 := HW4.out.2.below hb5 HW4.out.2.lt; have ha2 := msg_all hR5; have hs2 : (msgA r2 d2 i2 l2).size = 41 := arr_size _ _; have HS2 := Lib.hid (HS.out d2 i2 l2); have HR5 := Lib.hid hR5; generalize msgA r2 d2 i2 l2 = M2 at hs2 ha2 HS2 ⊢; clear hR5 hb5)
          | (guard_target = wpList _ _ _ _ _ _; refine wpList_store_arrW rfl 28 _ _ rfl w5.heap.size M2 rfl rfl 28 _ (Blk.new _ _ _) (by rw [hs2]; kernel_rfl) (by rw [hs2]; rfl) ha2 ?_; intro W9 hS9 hz9 hb9 ho9; have old : ∀ b, b < w5.heap.size → W9.heap[b]? = w5.heap[b]? := fun b hb => (ho9 b (by omega)).trans (Below.heap_alloc w5 _ b hb); have hx9 : Blk W9 w1.heap.size 28 M1 := (old _ hS5.lt).trans hS5; have hR9 := (HR5.out.kept (W' := W9) fun a x ha h => (World.cell?_of_block (old a.block ha.2)).trans h).mono (ok' := fun b => b < W9.heap.size) (fun b hb => by have := hb.2; rw [hz9]; simp; omega); have HSM := Lib.hid (HS2.out W9 hR9); have HW9 := Lib.hid (hw5.trans ((((Below.refl _ w5).alloc (Nat.le_refl _) _).trans hb9).mono hw5.size)); clear old hR9 hz9 hb9 ho9 hw5 hS5)
          | (guard_target = wpList _ _ _ _ _ _; refine wpList_load_blkG (by rfl) 28 _ rfl w5.heap.size rfl 28 M2 _ hS9 Try.underlying28 rfl (by rw [hs2]; kernel_rfl) ?_)
          | (guard_target = wpList _ _ _ _ _ _; refine wpList_load_blkG (by rfl) 28 _ rfl w1.heap.size rfl 28 M1 _ hx9 Try.underlying28 rfl (by rw [HS1.out]; kernel_rfl) ?_)
          | (go_at_call 15; refine HSM.out.mono ?_; rintro e w6 ⟨rfl, hb6⟩; have HW6 := Lib.hid (HW9.out.trans (hb6.mono HW9.out.size)); clear hb6))
        go_ret
        exact ⟨rfl, HW6.out⟩
theorem nums_any (a n : Int) (w : World) :
    Calls Try.prog 8 #[.int .i64 a, .int .i64 n] w fun e w' => e = .returned (.bool true) ∧ Below w.heap.size w w' := by
  by_cases ha : a < 0 ∨ 4 < a
  · exact nums_out a n ha w
  · have h : a = 0 ∨ a = 1 ∨ a = 2 ∨ a = 3 ∨ a = 4 := by omega
    by_cases hn : n < 0 ∨ 1099511627776 < n
    · rcases h with rfl | rfl | rfl | rfl | rfl
      · exact nums_bad0 n hn w
      · exact nums_bad1 n hn w
      · exact nums_bad2 n hn w
      · exact nums_bad3 n hn w
      · exact nums_bad4 n hn w
    · obtain ⟨N, rfl⟩ : ∃ N : Nat, n = (N : Int) := ⟨n.toNat, by omega⟩
      have hN : N ≤ 1099511627776 := by omega
      rcases h with rfl | rfl | rfl | rfl | rfl
      · exact nums_good0 N hN w
      · exact nums_good1 N hN w
      · exact nums_good2 N hN w
      · exact nums_good3 N hN w
      · exact nums_good4 N hN w
end Go.Proofs.Ytngceddlieimmaa
