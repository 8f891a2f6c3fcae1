/-
  The statement on kinds: for every number: what Write and Read answer of a message of that kind without fields.
-/
import Derived.Test.YtngceddlieimmaaPackRead
import Derived.Test.YtngceddlieimmaaPackLawW
namespace Go.Proofs.Ytngceddlieimmaa
open Go Go.RowKit PackMath

theorem writeM_zero (a : Nat) : writeM (zeroRaw (a : Int)).m = [UInt8.ofNat a] := by
  have h2 : idPart (id32 fun _ => 0) = [] := by rw [id32_zero, idPart, if_pos rfl]
  have e : parts (zeroRaw (a : Int)).m = [[], [], [], [], [], [], [], [], []] := by
    show [digits 0, digits 0, digits 0, digits 0, digits 0, idPart (id32 fun _ => 0), [], _, _] = _
    rw [h2, digits_zero]
    rfl
  rw [writeM, e]
  rfl
theorem zero_check {k : Int} (h1 : 1 ≤ k) (h2 : k ≤ 31) : (zeroRaw k).check = 0 := by
  unfold Raw.check zeroRaw
  simp
  omega
theorem zero_check_no {k : Int} (h : ¬ (1 ≤ k ∧ k ≤ 31)) : (zeroRaw k).check = 21 := by
  unfold Raw.check
  rw [if_pos (show (zeroRaw k).kind < 1 ∨ 31 < (zeroRaw k).kind by show k < 1 ∨ 31 < k; omega)]
theorem readP_one_ok {k : UInt8} (h1 : 1 ≤ k.toNat) (h2 : k.toNat ≤ 31) : readP [k] = .ok (zeroRaw (k.toNat : Int)) := by
  rw [show readP [k] = (if k.toNat < 1 ∨ 31 < k.toNat then .error 21 else match foldR (0, zeroRaw (k.toNat : Int)) (fsteps []) with | .error e => .error e | .ok (_, r) => if r.check = 0 then .ok r else .error r.check) from rfl]
  rw [if_neg (by omega), fsteps_nil]
  show (if (zeroRaw (k.toNat : Int)).check = 0 then _ else _) = _
  rw [if_pos (zero_check (by omega) (by omega))]
theorem readP_one_no {k : UInt8} (h : ¬ (1 ≤ k.toNat ∧ k.toNat ≤ 31)) : readP [k] = .error 21 := by
  rw [show readP [k] = (if k.toNat < 1 ∨ 31 < k.toNat then .error 21 else match foldR (0, zeroRaw (k.toNat : Int)) (fsteps []) with | .error e => .error e | .ok (_, r) => if r.check = 0 then .ok r else .error r.check) from rfl]
  rw [if_pos (by omega)]
set_option maxRecDepth 100000 in
set_option maxHeartbeats 2000000 in
theorem kinds_any (a : Int) (w : World) : Calls Try.prog 9 #[.int .i64 a] w fun e w' => e = .returned (.bool true) ∧ Below w.heap.size w w' := by
  have HZ1 := Lib.hid (built_msg1 a)
  have hsz : (msgA (zeroRaw a) nilS nilS nilS).size = 41 := arr_size _ _
  by_cases hk : 1 ≤ a ∧ a ≤ 31
  · have d1 : decide (a < 1) = false := decide_eq_false (by omega)
    have d2 : decide (31 < a) = false := decide_eq_false (by omega)
    have d1' : ¬ a < 1 := by omega
    have d2' : ¬ 31 < a := by omega
    obtain ⟨k, hkk⟩ : ∃ k : UInt8, k = UInt8.ofNat a.toNat := ⟨_, rfl⟩
    have hka : (k.toNat : Int) = a := by rw [hkk, UInt8.toNat_ofNat']; omega
    have hf : (zeroRaw a).Fit := (zeroRaw a).fit_iff.1 (zero_check hk.1 hk.2)
    have hwm : writeM (zeroRaw a).m = [k] := by
      have := writeM_zero a.toNat
      rw [show ((a.toNat : Nat) : Int) = a by omega, ← hkk] at this
      exact this
    have HW : Hid (∀ W, Calls Try.prog 11 #[.agg (msgA (zeroRaw a) nilS nilS nilS)] W fun e w' => ∃ g n cap, e = .returned (.tuple #[.slice (some ⟨g, 0, none⟩) n cap, .int .i64 0]) ∧ n = 1 ∧ w'.ownsRow W.heap.size 5 1 (.slice (some ⟨g, 0, none⟩) n cap) n ([k].map bv) ∧ Below W.heap.size W w') := Lib.hid fun W => by
      have := callsIn_wide.1 (write_ok (zeroRaw a) hf nilS nilS nilS W (zero_rd _ _ _))
      rw [hwm] at this
      exact this
    have HR : Hid (∀ A c W, RdB W (fun b => b < W.heap.size) (.slice A 1 c) [k] → Calls Try.prog 13 #[.slice A 1 c] W fun e w' => (∃ d i l, e = .returned (.tuple #[.agg (msgA (zeroRaw a) d i l), .int .i64 0]) ∧ RdR w' (fresh W w') (zeroRaw a) d i l) ∧ Below W.heap.size W w') := Lib.hid fun A c W h => by
      refine (read_any A c [k] W h).mono ?_
      rintro e w' ⟨h1, h2⟩
      unfold ReadOut at h1
      rw [readP_one_ok (by omega) (by omega), hka] at h1
      exact ⟨h1, h2⟩
    have hkw : wrap64 (k.toNat : Int) = a := by unfold wrap64; omega
    have HKA := Lib.hid hka
    clear hk hf hwm hkk hka
    go_enter Try.func9, Try.ntmps9
    go_wp2_with (first
      | (go_at_call 10; refine (packs_any _).mono ?_; rintro e w1 ⟨rfl, hb1⟩)
      | (refine wpList_build rfl 28 _ rfl (by kernel_rfl) ?_; simp only [List.map_toArray, List.map_cons, List.map_nil])
      | (go_at_call 11; rw [HZ1.out]; refine (HW.out _).mono ?_; rintro e w2 ⟨g, n, cap, rfl, rfl, hown, hb2⟩; have hrd := own_rd hown rfl (by simp); have hgc : w2.cell? ⟨g, 0, none⟩ = some (.int .u8 (k.toNat : Int)) := (by have := hown.cells (g := g) rfl 0 _ rfl; rwa [add_zero_block] at this); have hgl : g < w2.heap.size := (by obtain ⟨cs, h⟩ := ownsRow_cells hown; exact (Array.getElem?_eq_some_iff.1 h).1); have hb2' := hb1.trans (hb2.mono hb1.size); clear hown)
      | (go_at_call 13; refine (HR.out _ _ _ (hrd.mono fun b hb => hb.2)).mono ?_; rintro e w3 ⟨⟨d, i, l, rfl, hR3⟩, hb3⟩; have hgc3 := (hb3.cell (p := ⟨g, 0, none⟩) hgl).trans hgc; have hgl3 := Nat.lt_of_lt_of_le hgl hb3.size; have hb3' := hb2'.trans (hb3.mono hb2'.size); have ha2 := msg_all hR3; have hs2 : (msgA (zeroRaw a) d i l).size = 41 := arr_size _ _; have hcc := Lib.hid (fun W => msg_cells (w := W) (g := w3.heap.size) (r := zeroRaw a) (d := d) (i := i) (l := l)); obtain ⟨M2, hM2⟩ : ∃ M2, msgA (zeroRaw a) d i l = M2 := ⟨_, rfl⟩; rw [hM2] at hs2 ha2 hcc)
      | (refine wpList_store_arrW rfl 28 _ _ rfl w3.heap.size M2 rfl rfl 28 _ (Blk.new _ _ _) (by rw [hs2]; kernel_rfl) (by rw [hs2]; rfl) ha2 ?_; intro W9 hS9 hz9 hb9 ho9; have hc9 : W9.cell? ⟨w3.heap.size, 0, none⟩ = some (.int .i64 a) := (hcc.out W9 hS9).1; have hgc9 := (World.cell?_of_block ((ho9 g (by omega)).trans (Below.heap_alloc _ _ _ hgl3))).trans hgc3; have hb9' := hb3'.trans ((((Below.refl _ w3).alloc (Nat.le_refl _) _).trans hb9).mono hb3'.size)))
    go_ret
    exact ⟨rfl, hb9'⟩
  · have hf : ¬ (zeroRaw a).Fit := fun h => by have := (zeroRaw a).fit_iff.2 h; rw [zero_check_no hk] at this; cases this
    obtain ⟨low, hlow⟩ : ∃ low : UInt8, low = UInt8.ofNat (a % 256).toNat := ⟨_, rfl⟩
    have hl2 : a % 256 = (low.toNat : Int) := by rw [hlow, UInt8.toNat_ofNat']; omega
    have hl1 : IntKind.u8.wrap a = (low.toNat : Int) := by rw [IntKind.wrap_u8', hl2]
    have HW : Hid (∀ W, Calls Try.prog 11 #[.agg (msgA (zeroRaw a) nilS nilS nilS)] W fun e w' => e = .returned (.tuple #[.slice none 0 0, .int .i64 21]) ∧ Below W.heap.size W w') := Lib.hid fun W => by
      have := write_no (zeroRaw a) hf nilS nilS nilS W (zero_rd _ _ _)
      rw [zero_check_no hk] at this
      exact this
    have HRD : Hid (∀ W : World, RdB (W.alloc (.cells #[.int .u8 (low.toNat : Int)] 5)) (fun b => b < (W.alloc (.cells #[.int .u8 (low.toNat : Int)] 5)).heap.size) (.slice (some ⟨W.heap.size, 0, none⟩) 1 1) [low]) := Lib.hid fun W => rdB_cells (n := 1) (fun i hi => by
      obtain rfl : i = 0 := by omega
      exact (Blk.new W 5 #[.int .u8 (low.toNat : Int)]).cell 0) rfl (by omega) (by omega) (by simp)
    by_cases hin : 1 ≤ low.toNat ∧ low.toNat ≤ 31
    · have HR : Hid (∀ A c W, RdB W (fun b => b < W.heap.size) (.slice A 1 c) [low] → Calls Try.prog 13 #[.slice A 1 c] W fun e w' => (∃ M, e = .returned (.tuple #[.agg M, .int .i64 0]) ∧ M.size = 41 ∧ M.all (·.oneCell') = true) ∧ Below W.heap.size W w') := Lib.hid fun A c W h => by
        refine (read_any A c [low] W h).mono ?_
        rintro e w' ⟨h1, h2⟩
        unfold ReadOut at h1
        rw [readP_one_ok hin.1 hin.2] at h1
        obtain ⟨d, i, l, he, hR⟩ := h1
        exact ⟨⟨_, he, arr_size _ _, msg_all hR⟩, h2⟩
      have e1 : decide ((1 : Int) ≤ (low.toNat : Int)) = true := decide_eq_true (by omega)
      have e2 : decide ((low.toNat : Int) ≤ 31) = true := decide_eq_true (by omega)
      have e1' : (1 : Int) ≤ (low.toNat : Int) := by omega
      have e2' : (low.toNat : Int) ≤ 31 := by omega
      by_cases ha : a < 1
      · have d1 : decide (a < 1) = true := decide_eq_true ha
        clear hk hf hlow hin
        go_enter Try.func9, Try.ntmps9
        go_wp2_with (first
          | (go_at_call 10; refine (packs_any _).mono ?_; rintro e w1 ⟨rfl, hb1⟩)
          | (refine wpList_build rfl 28 _ rfl (by kernel_rfl) ?_; simp only [List.map_toArray, List.map_cons, List.map_nil])
          | (go_at_call 11; rw [HZ1.out]; refine (HW.out _).mono ?_; rintro e w2 ⟨rfl, hb2⟩; have hb2' := hb1.trans (hb2.mono hb1.size); have hrd := HRD.out w2)
          | (go_at_call 13; refine (HR.out _ _ _ hrd).mono ?_; rintro e w3 ⟨⟨M2, rfl, hs2, ha2⟩, hb3⟩; have hb3' := (hb2'.alloc hb2'.size _).trans (hb3.mono (Nat.le_trans hb2'.size (by simp))))
          | (refine wpList_store_arrW rfl 28 _ _ rfl w3.heap.size M2 rfl rfl 28 _ (Blk.new _ _ _) (by rw [hs2]; kernel_rfl) (by rw [hs2]; rfl) ha2 ?_; intro W9 hS9 hz9 hb9 ho9; have hb9' := hb3'.trans ((((Below.refl _ w3).alloc (Nat.le_refl _) _).trans hb9).mono hb3'.size)))
        go_ret
        exact ⟨rfl, hb9'⟩
      · have d1 : decide (a < 1) = false := decide_eq_false ha
        have d2 : decide (31 < a) = true := decide_eq_true (by omega)
        have d2' : 31 < a := by omega
        clear hk hf hlow hin
        go_enter Try.func9, Try.ntmps9
        go_wp2_with (first
          | (go_at_call 10; refine (packs_any _).mono ?_; rintro e w1 ⟨rfl, hb1⟩)
          | (refine wpList_build rfl 28 _ rfl (by kernel_rfl) ?_; simp only [List.map_toArray, List.map_cons, List.map_nil])
          | (go_at_call 11; rw [HZ1.out]; refine (HW.out _).mono ?_; rintro e w2 ⟨rfl, hb2⟩; have hb2' := hb1.trans (hb2.mono hb1.size); have hrd := HRD.out w2)
          | (go_at_call 13; refine (HR.out _ _ _ hrd).mono ?_; rintro e w3 ⟨⟨M2, rfl, hs2, ha2⟩, hb3⟩; have hb3' := (hb2'.alloc hb2'.size _).trans (hb3.mono (Nat.le_trans hb2'.size (by simp))))
          | (refine wpList_store_arrW rfl 28 _ _ rfl w3.heap.size M2 rfl rfl 28 _ (Blk.new _ _ _) (by rw [hs2]; kernel_rfl) (by rw [hs2]; rfl) ha2 ?_; intro W9 hS9 hz9 hb9 ho9; have hb9' := hb3'.trans ((((Below.refl _ w3).alloc (Nat.le_refl _) _).trans hb9).mono hb3'.size)))
        go_ret
        exact ⟨rfl, hb9'⟩
    · have HR : Hid (∀ A c W, RdB W (fun b => b < W.heap.size) (.slice A 1 c) [low] → Calls Try.prog 13 #[.slice A 1 c] W fun e w' => (∃ M, e = .returned (.tuple #[.agg M, .int .i64 21]) ∧ M.size = 41 ∧ M.all (·.oneCell') = true) ∧ Below W.heap.size W w') := Lib.hid fun A c W h => by
        refine (read_any A c [low] W h).mono ?_
        rintro e w' ⟨h1, h2⟩
        unfold ReadOut at h1
        rw [readP_one_no hin] at h1
        exact ⟨⟨_, h1.1, arr_size _ _, msg_all (zero_rd W (fun _ => False) 0)⟩, h2⟩
      by_cases hz : low.toNat = 0
      · have e1 : decide ((1 : Int) ≤ (low.toNat : Int)) = false := decide_eq_false (by omega)
        have e1' : ¬ (1 : Int) ≤ (low.toNat : Int) := by omega
        clear hz
        by_cases ha : a < 1
        · have d1 : decide (a < 1) = true := decide_eq_true ha
          clear hk hf hlow hin
          go_enter Try.func9, Try.ntmps9
          go_wp2_with (first
            | (go_at_call 10; refine (packs_any _).mono ?_; rintro e w1 ⟨rfl, hb1⟩)
            | (refine wpList_build rfl 28 _ rfl (by kernel_rfl) ?_; simp only [List.map_toArray, List.map_cons, List.map_nil])
            | (go_at_call 11; rw [HZ1.out]; refine (HW.out _).mono ?_; rintro e w2 ⟨rfl, hb2⟩; have hb2' := hb1.trans (hb2.mono hb1.size); have hrd := HRD.out w2)
            | (go_at_call 13; refine (HR.out _ _ _ hrd).mono ?_; rintro e w3 ⟨⟨M2, rfl, hs2, ha2⟩, hb3⟩; have hb3' := (hb2'.alloc hb2'.size _).trans (hb3.mono (Nat.le_trans hb2'.size (by simp))))
            | (refine wpList_store_arrW rfl 28 _ _ rfl w3.heap.size M2 rfl rfl 28 _ (Blk.new _ _ _) (by rw [hs2]; kernel_rfl) (by rw [hs2]; rfl) ha2 ?_; intro W9 hS9 hz9 hb9 ho9; have hb9' := hb3'.trans ((((Below.refl _ w3).alloc (Nat.le_refl _) _).trans hb9).mono hb3'.size)))
          go_ret
          exact ⟨rfl, hb9'⟩
        · have d1 : decide (a < 1) = false := decide_eq_false ha
          have d2 : decide (31 < a) = true := decide_eq_true (by omega)
          have d2' : 31 < a := by omega
          clear hk hf hlow hin
          go_enter Try.func9, Try.ntmps9
          go_wp2_with (first
            | (go_at_call 10; refine (packs_any _).mono ?_; rintro e w1 ⟨rfl, hb1⟩)
            | (refine wpList_build rfl 28 _ rfl (by kernel_rfl) ?_; simp only [List.map_toArray, List.map_cons, List.map_nil])
            | (go_at_call 11; rw [HZ1.out]; refine (HW.out _).mono ?_; rintro e w2 ⟨rfl, hb2⟩; have hb2' := hb1.trans (hb2.mono hb1.size); have hrd := HRD.out w2)
            | (go_at_call 13; refine (HR.out _ _ _ hrd).mono ?_; rintro e w3 ⟨⟨M2, rfl, hs2, ha2⟩, hb3⟩; have hb3' := (hb2'.alloc hb2'.size _).trans (hb3.mono (Nat.le_trans hb2'.size (by simp))))
            | (refine wpList_store_arrW rfl 28 _ _ rfl w3.heap.size M2 rfl rfl 28 _ (Blk.new _ _ _) (by rw [hs2]; kernel_rfl) (by rw [hs2]; rfl) ha2 ?_; intro W9 hS9 hz9 hb9 ho9; have hb9' := hb3'.trans ((((Below.refl _ w3).alloc (Nat.le_refl _) _).trans hb9).mono hb3'.size)))
          go_ret
          exact ⟨rfl, hb9'⟩
      · have e1 : decide ((1 : Int) ≤ (low.toNat : Int)) = true := decide_eq_true (by omega)
        have e2 : decide ((low.toNat : Int) ≤ 31) = false := decide_eq_false (by omega)
        have e1' : (1 : Int) ≤ (low.toNat : Int) := by omega
        have e2' : ¬ (low.toNat : Int) ≤ 31 := by omega
        by_cases ha : a < 1
        · have d1 : decide (a < 1) = true := decide_eq_true ha
          clear hk hf hlow hin
          go_enter Try.func9, Try.ntmps9
          go_wp2_with (first
            | (go_at_call 10; refine (packs_any _).mono ?_; rintro e w1 ⟨rfl, hb1⟩)
            | (refine wpList_build rfl 28 _ rfl (by kernel_rfl) ?_; simp only [List.map_toArray, List.map_cons, List.map_nil])
            | (go_at_call 11; rw [HZ1.out]; refine (HW.out _).mono ?_; rintro e w2 ⟨rfl, hb2⟩; have hb2' := hb1.trans (hb2.mono hb1.size); have hrd := HRD.out w2)
            | (go_at_call 13; refine (HR.out _ _ _ hrd).mono ?_; rintro e w3 ⟨⟨M2, rfl, hs2, ha2⟩, hb3⟩; have hb3' := (hb2'.alloc hb2'.size _).trans (hb3.mono (Nat.le_trans hb2'.size (by simp))))
            | (refine wpList_store_arrW rfl 28 _ _ rfl w3.heap.size M2 rfl rfl 28 _ (Blk.new _ _ _) (by rw [hs2]; kernel_rfl) (by rw [hs2]; rfl) ha2 ?_; intro W9 hS9 hz9 hb9 ho9; have hb9' := hb3'.trans ((((Below.refl _ w3).alloc (Nat.le_refl _) _).trans hb9).mono hb3'.size)))
          go_ret
          exact ⟨rfl, hb9'⟩
        · have d1 : decide (a < 1) = false := decide_eq_false ha
          have d2 : decide (31 < a) = true := decide_eq_true (by omega)
          have d2' : 31 < a := by omega
          clear hk hf hlow hin
          go_enter Try.func9, Try.ntmps9
          go_wp2_with (first
            | (go_at_call 10; refine (packs_any _).mono ?_; rintro e w1 ⟨rfl, hb1⟩)
            | (refine wpList_build rfl 28 _ rfl (by kernel_rfl) ?_; simp only [List.map_toArray, List.map_cons, List.map_nil])
            | (go_at_call 11; rw [HZ1.out]; refine (HW.out _).mono ?_; rintro e w2 ⟨rfl, hb2⟩; have hb2' := hb1.trans (hb2.mono hb1.size); have hrd := HRD.out w2)
            | (go_at_call 13; refine (HR.out _ _ _ hrd).mono ?_; rintro e w3 ⟨⟨M2, rfl, hs2, ha2⟩, hb3⟩; have hb3' := (hb2'.alloc hb2'.size _).trans (hb3.mono (Nat.le_trans hb2'.size (by simp))))
            | (refine wpList_store_arrW rfl 28 _ _ rfl w3.heap.size M2 rfl rfl 28 _ (Blk.new _ _ _) (by rw [hs2]; kernel_rfl) (by rw [hs2]; rfl) ha2 ?_; intro W9 hS9 hz9 hb9 ho9; have hb9' := hb3'.trans ((((Below.refl _ w3).alloc (Nat.le_refl _) _).trans hb9).mono hb3'.size)))
          go_ret
          exact ⟨rfl, hb9'⟩
end Go.Proofs.Ytngceddlieimmaa
