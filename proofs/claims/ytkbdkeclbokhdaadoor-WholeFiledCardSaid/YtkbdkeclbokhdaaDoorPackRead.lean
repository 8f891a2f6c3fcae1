/-
  pack.Read: for all bytes: the message that they are, in new memory, or the error's number and no message.
-/
import Derived.Test.YtkbdkeclbokhdaaDoorPackReadF
namespace Go.Proofs.YtkbdkeclbokhdaaDoor
open Go Go.RowKit PackMath

def zeroRaw (k : Int) : Raw := ⟨k, 0, 0, 0, 0, 0, fun _ => 0, [], [], []⟩
abbrev nilS : Value := .slice none 0 0
/-- What Read answers. -/
def readP : List UInt8 → Except Nat Raw
  | [] => .error 20
  | k :: s => if k.toNat < 1 ∨ 31 < k.toNat then .error 21 else match foldR (0, zeroRaw (k.toNat : Int)) (fsteps s) with
    | .error e => .error e
    | .ok (_, r) => if r.check = 0 then .ok r else .error r.check
def ReadOut (w : World) (bs : List UInt8) (e : Ending) (w' : World) : Prop :=
  match readP bs with
  | .error c => e = .returned (.tuple #[.agg (msgA (zeroRaw 0) nilS nilS nilS), .int .i64 (c : Int)]) ∧ c ≠ 0
  | .ok r => ∃ d i l, e = .returned (.tuple #[.agg (msgA r d i l), .int .i64 0]) ∧ RdR w' (fresh w w') r d i l
theorem built_msg0 : (Tryd.prog.built 69 []).getD #[] = msgA (zeroRaw 0) nilS nilS nilS := by kernel_rfl
theorem built_msg1 (k : Int) : (Tryd.prog.built 69 [(0, .int .i64 k)]).getD #[] = msgA (zeroRaw k) nilS nilS nilS := by kernel_rfl
theorem zero_rd (W : World) (ok : Nat → Prop) (k : Int) : RdR W ok (zeroRaw k) nilS nilS nilS :=
  ⟨⟨none, 0, rfl, Nat.le_refl _, Nat.zero_le _, fun h => absurd h (by simp [zeroRaw])⟩, ⟨none, 0, rfl, Nat.zero_le _, fun k hk => absurd hk (by simp [zeroRaw])⟩, ⟨none, 0, rfl, Nat.zero_le _, fun k hk => absurd hk (by simp [zeroRaw])⟩⟩
theorem msg_all {W : World} {ok : Nat → Prop} {r : Raw} {d i l : Value} (h : RdR W ok r d i l) : (msgA r d i l).all (·.oneCell') = true := by
  obtain ⟨⟨A, c, rfl, _⟩, ⟨A', c', rfl, _⟩, ⟨A'', c'', rfl, _⟩⟩ := h
  rw [msgA, arr_list]
  simp only [List.all_toArray, List.all_map, List.all_eq_true, List.mem_range]
  intro j hj
  match j with
  | 0 => rfl
  | 1 => rfl
  | 2 => rfl
  | 3 => rfl
  | 4 => rfl
  | 5 => rfl
  | m + 6 =>
    show (if m + 6 < 38 then bv _ else if m + 6 = 38 then _ else if m + 6 = 39 then _ else _ : Value).oneCell' = true
    split
    · rfl
    · split
      · rfl
      · split <;> rfl
set_option maxRecDepth 100000 in
set_option maxHeartbeats 4000000 in
theorem read_any (A : Option Addr) (c : Nat) (bs : List UInt8) (w : World) (hr : RdB w (fun b => b < w.heap.size) (.slice A bs.length c) bs) :
    Calls Tryd.prog 31 #[.slice A bs.length c] w fun e w' => ReadOut w bs e w' ∧ Below w.heap.size w w' := by
  have hz0 := built_msg0
  have hza : (msgA (zeroRaw 0) nilS nilS nilS).all (·.oneCell') = true := msg_all (zero_rd w (fun _ => False) 0)
  have hzs : (msgA (zeroRaw 0) nilS nilS nilS).size = 41 := arr_size _ _
  have kB : Blk (w.alloc (.cells (msgA (zeroRaw 0) nilS nilS nilS) 69)) w.heap.size 69 (msgA (zeroRaw 0) nilS nilS nilS) := Blk.new _ _ _
  have hb1 : Below w.heap.size w (w.alloc (.cells (msgA (zeroRaw 0) nilS nilS nilS) 69)) := (Below.refl _ _).alloc (Nat.le_refl _) _
  obtain ⟨Z, hZ⟩ : ∃ Z, msgA (zeroRaw 0) nilS nilS nilS = Z := ⟨_, rfl⟩
  have HZ := Lib.hid hZ
  cases bs with
  | nil =>
    have HO : Hid (∀ w', ReadOut w [] (.returned (.tuple #[.agg Z, .int .i64 20])) w') := Lib.hid fun w' => by
      unfold ReadOut readP
      rw [hZ]
      exact ⟨rfl, by omega⟩
    rw [hZ] at hz0 hza hzs kB hb1
    have HZ0 := Lib.hid hz0
    have HZA := Lib.hid hza
    have HZS := Lib.hid hzs
    have HB := Lib.hid hb1
    clear hz0 hza hzs hb1 hZ hr
    go_enter Tryd.func31, Tryd.ntmps31
    go_wp2_with (first
      | (refine wpList_build rfl 69 #[] rfl (by kernel_rfl) ?_; simp only [List.map_toArray, List.map_nil]; rw [HZ0.out])
      | (refine wpList_store_arrW rfl 69 _ _ rfl w.heap.size Z rfl rfl 69 _ (Blk.new _ _ _) (by rw [HZS.out]; kernel_rfl) (by rw [HZS.out]; rfl) HZA.out ?_; intro W9 hS9 hz9 hb9 ho9))
    refine bodyPost_ret (results_cell_tmp (p := 2) (q := 3) rfl _ _ w.heap.size 69 _ _ rfl hS9 Tryd.underlying69 rfl (by rw [HZS.out]; kernel_rfl)) rfl ?_
    exact ⟨HO.out _, ((Below.refl _ w).alloc (Nat.le_refl _) _).trans hb9⟩
  | cons k s =>
    have hkl := k.toNat_lt
    have hwr : wrap64 (k.toNat : Int) = (k.toNat : Int) := by unfold wrap64; omega
    obtain ⟨ad, hA, hc0⟩ := hr.getc (j := 0) (by simp)
    subst hA
    have hc1 : w.cell? ad = some (.int .u8 (k.toNat : Int)) := by have := hc0; rw [show ad.add 0 = ad by simp [Addr.add]] at this; exact this
    have hcl : w.cell? ad = some (.int .u8 (k.toNat : Int)) → ∀ o, (w.alloc o).cell? ad = some (.int .u8 (k.toNat : Int)) := fun h o => by
      obtain ⟨x, hx, _⟩ := cells_of_cell h
      exact (World.cell?_of_block (Below.heap_alloc _ _ _ (Array.getElem?_eq_some_iff.1 hx).1)).trans h
    have hcl1 := hcl hc1
    have hr1 := hr.cut (k := 1) (by simp)
    obtain ⟨n, hn⟩ : ∃ n, s.length = n := ⟨_, rfl⟩
    rw [show (k :: s).drop 1 = s from rfl, List.length_cons, hn, Nat.add_sub_cancel] at hr1
    have hs1 : ∀ w', (Instr.sliceAt 42 (.slice (some ad) (n + 1) c) (some (.int .i64 1)) none none).run Tryd.prog w' = .ok (.slice (cutA (some ad) c 1) n (c - 1)) w' := fun w' =>
      run_slice_from (P := Tryd.prog) 42 5 Tryd.underlying42 (by kernel_rfl) (some ad) (n + 1) c 1 (by omega) w'
    obtain ⟨A3, hA3⟩ : ∃ A3, cutA (some ad) c 1 = A3 := ⟨_, rfl⟩
    obtain ⟨c3, hc3⟩ : ∃ c3, c - 1 = c3 := ⟨_, rfl⟩
    rw [hA3, hc3] at hs1 hr1
    have HRF : Hid (∀ W2, Blk W2 (w.heap.size + 1) 69 (msgA (zeroRaw (k.toNat : Int)) nilS nilS nilS) → Below w.heap.size w W2 → Calls Tryd.prog 53 #[.pointer (some ⟨w.heap.size + 1, 0, none⟩), .slice A3 n c3] W2 fun e w' => W2.grownBy w' (some (w.heap.size + 1)) ∧ FieldsOut W2 (w.heap.size + 1) (zeroRaw (k.toNat : Int)) s e w') := Lib.hid fun W2 hS hb => by
      have := readFields_any (w.heap.size + 1) (zeroRaw (k.toNat : Int)) A3 c3 s w.heap.size W2 ⟨nilS, nilS, nilS, hS, zero_rd _ _ _⟩ (by omega) (by rw [hn]; exact hr1.kept fun a x ha h => (hb.cell (p := a) ha).trans h)
      rw [hn] at this
      exact callsIn_wide.1 this
    have hz1 := built_msg1 (k.toNat : Int)
    have hza1 : (msgA (zeroRaw (k.toNat : Int)) nilS nilS nilS).all (·.oneCell') = true := msg_all (zero_rd w (fun _ => False) _)
    have hzs1 : (msgA (zeroRaw (k.toNat : Int)) nilS nilS nilS).size = 41 := arr_size _ _
    have hcK : Hid (∀ W2, Blk W2 (w.heap.size + 1) 69 (msgA (zeroRaw (k.toNat : Int)) nilS nilS nilS) → W2.cell? ⟨w.heap.size + 1, 0, none⟩ = some (.int .i64 (k.toNat : Int))) := Lib.hid fun W2 h => (msg_cells h).1
    obtain ⟨M1, hM1⟩ : ∃ M1, msgA (zeroRaw (k.toNat : Int)) nilS nilS nilS = M1 := ⟨_, rfl⟩
    rw [hM1] at HRF hz1 hza1 hzs1 hcK
    have HO : Hid (∀ (cc : Nat) w', readP (k :: s) = .error cc → cc ≠ 0 → ReadOut w (k :: s) (.returned (.tuple #[.agg Z, .int .i64 (cc : Int)])) w') := Lib.hid fun cc w' h h0 => by
      unfold ReadOut
      rw [h, hZ]
      exact ⟨rfl, h0⟩
    have HO2 : Hid (∀ (r : Raw) d i l w', readP (k :: s) = .ok r → RdR w' (fresh w w') r d i l → ReadOut w (k :: s) (.returned (.tuple #[.agg (msgA r d i l), .int .i64 0])) w') := Lib.hid fun r d i l w' h h0 => by
      unfold ReadOut
      rw [h]
      exact ⟨d, i, l, rfl, h0⟩
    rw [hZ] at hz0 hza hzs kB hb1
    have HZ0 := Lib.hid hz0
    have HZA := Lib.hid hza
    have HZS := Lib.hid hzs
    have HZ1 := Lib.hid hz1
    have HZA1 := Lib.hid hza1
    have HZS1 := Lib.hid hzs1
    have hn0 : ((((n + 1 : Nat) : Int)) == 0) = false := by
      have : ¬ ((n + 1 : Nat) : Int) = 0 := by omega
      simpa using this
    rw [List.length_cons, hn]
    clear hz0 hza hzs hb1 hZ hr hz1 hza1 hzs1 hM1 kB hr1 hA3 hc3 hc0 hcl hn HZ
    have HRP : Hid (readP (k :: s) = if k.toNat < 1 ∨ 31 < k.toNat then .error 21 else match foldR (0, zeroRaw (k.toNat : Int)) (fsteps s) with
      | .error e => .error e
      | .ok (_, r) => if r.check = 0 then .ok r else .error r.check) := Lib.hid rfl
    by_cases hkind : k.toNat < 1 ∨ 31 < k.toNat
    · have dk : decide (1 ≤ (k.toNat : Int) ∧ (k.toNat : Int) ≤ 31) = false := decide_eq_false (by omega)
      have HE : Hid (readP (k :: s) = .error 21) := Lib.hid (by rw [HRP.out, if_pos hkind])
      clear hkind hkl hs1
      go_enter Tryd.func31, Tryd.ntmps31
      go_wp2_with (first
        | (refine wpList_build rfl 69 #[] rfl (by kernel_rfl) ?_; simp only [List.map_toArray, List.map_nil]; rw [HZ0.out])
        | (refine wpList_build rfl 69 _ rfl (by kernel_rfl) ?_; simp only [List.map_toArray, List.map_cons, List.map_nil])
        | (rw [HZ1.out]; refine wpList_store_arrW rfl 69 _ _ rfl (w.heap.size + 1) M1 rfl rfl 69 _ (Blk.newAt _ _ (by simp) rfl) (by rw [HZS1.out]; kernel_rfl) (by rw [HZS1.out]; rfl) HZA1.out ?_; intro W2 hS2 hz2 hb2 ho2; have hcK2 := hcK.out W2 hS2; have hz2' : W2.heap.size = w.heap.size + 2 := (by rw [hz2]; simp); have hb2' : Below w.heap.size w W2 := (((Below.refl _ w).alloc (Nat.le_refl _) _).alloc (by simp) _).trans (hb2.mono (by omega)); obtain ⟨old, kB2, hos⟩ : ∃ old, Blk W2 w.heap.size 69 old ∧ old.size = 41 := ⟨_, (ho2 w.heap.size (by omega)).trans ((Blk.new w 69 _).alloc _), rfl⟩; clear hz2 hb2 ho2)
        | (go_at_call 52; refine (isKind_any _ _).mono ?_; rintro e w2 ⟨rfl, rfl⟩)
        | (refine wpList_store_arrW rfl 69 _ _ rfl w.heap.size Z rfl rfl 69 _ (kB2) (by rw [HZS.out]; kernel_rfl) (by rw [HZS.out]; exact hos) HZA.out ?_; intro W9 hS9 hz9 hb9 ho9))
      refine bodyPost_ret (results_cell_tmp (p := 2) (q := 3) rfl _ _ w.heap.size 69 _ _ rfl hS9 Tryd.underlying69 rfl (by rw [HZS.out]; kernel_rfl)) rfl ?_
      exact ⟨HO.out 21 _ HE.out (by omega), hb2'.trans (hb9.mono (Nat.le_refl _))⟩
    · have dk : decide (1 ≤ (k.toNat : Int) ∧ (k.toNat : Int) ≤ 31) = true := decide_eq_true (by omega)
      have HRP2 : Hid (readP (k :: s) = match foldR (0, zeroRaw (k.toNat : Int)) (fsteps s) with
        | .error e => .error e
        | .ok (_, r) => if r.check = 0 then .ok r else .error r.check) := Lib.hid (by rw [HRP.out, if_neg hkind])
      clear hkind hkl
      cases hfold : foldR (0, zeroRaw (k.toNat : Int)) (fsteps s) with
      | error cc =>
        have HOE : Hid (∀ W2 e w3, FieldsOut W2 (w.heap.size + 1) (zeroRaw (k.toNat : Int)) s e w3 → e = .returned (.int .i64 (cc : Int)) ∧ cc ≠ 0) := Lib.hid fun W2 e w3 h => by unfold FieldsOut at h; rw [hfold] at h; exact h
        have HE : Hid (readP (k :: s) = .error cc) := Lib.hid (by rw [HRP2.out, hfold])
        clear hfold
        go_enter Tryd.func31, Tryd.ntmps31
        go_wp2_with (first
          | (refine wpList_build rfl 69 #[] rfl (by kernel_rfl) ?_; simp only [List.map_toArray, List.map_nil]; rw [HZ0.out])
          | (refine wpList_build rfl 69 _ rfl (by kernel_rfl) ?_; simp only [List.map_toArray, List.map_cons, List.map_nil])
          | (rw [HZ1.out]; refine wpList_store_arrW rfl 69 _ _ rfl (w.heap.size + 1) M1 rfl rfl 69 _ (Blk.newAt _ _ (by simp) rfl) (by rw [HZS1.out]; kernel_rfl) (by rw [HZS1.out]; rfl) HZA1.out ?_; intro W2 hS2 hz2 hb2 ho2; have hcK2 := hcK.out W2 hS2; have hz2' : W2.heap.size = w.heap.size + 2 := (by rw [hz2]; simp); have hb2' : Below w.heap.size w W2 := (((Below.refl _ w).alloc (Nat.le_refl _) _).alloc (by simp) _).trans (hb2.mono (by omega)); obtain ⟨old, kB2, hos⟩ : ∃ old, Blk W2 w.heap.size 69 old ∧ old.size = 41 := ⟨_, (ho2 w.heap.size (by omega)).trans ((Blk.new w 69 _).alloc _), rfl⟩; clear hz2 hb2 ho2)
          | (go_at_call 52; refine (isKind_any _ _).mono ?_; rintro e w2 ⟨rfl, rfl⟩)
          | (go_at_call 53; refine (HRF.out w2 hS2 hb2').mono ?_; rintro e w3 ⟨hG3, hout⟩; have kB3 := kB2.grown hG3 (by intro e; injection e with e; omega); have hb3 := hb2'.grown hG3 (by omega) (fun k hk => by injection hk with hk; omega); obtain ⟨rfl, hcc⟩ := HOE.out w2 e w3 hout; have d0 : ((cc : Int) == 0) = false := (by simpa using hcc); have d1 : ((cc : Int) != 0) = true := (by simpa using hcc); clear hout)
          | (refine wpList_store_arrW rfl 69 _ _ rfl w.heap.size Z rfl rfl 69 _ (kB3) (by rw [HZS.out]; kernel_rfl) (by rw [HZS.out]; exact hos) HZA.out ?_; intro W9 hS9 hz9 hb9 ho9))
        refine bodyPost_ret (results_cell_tmp (p := 2) (q := 3) rfl _ _ w.heap.size 69 _ _ rfl hS9 Tryd.underlying69 rfl (by rw [HZS.out]; kernel_rfl)) rfl ?_
        exact ⟨HO.out cc _ HE.out hcc, hb3.trans (hb9.mono (Nat.le_refl _))⟩
      | ok sr =>
        obtain ⟨last, r⟩ := sr
        have HOE : Hid (∀ W2 e w3, FieldsOut W2 (w.heap.size + 1) (zeroRaw (k.toNat : Int)) s e w3 → e = .returned (.int .i64 0) ∧ MsgAt w3 (w.heap.size + 1) (fresh W2 w3) r) := Lib.hid fun W2 e w3 h => by unfold FieldsOut at h; rw [hfold] at h; exact h
        have HCK : Hid (∀ d i l w3, RdR w3 (fun b => b < w3.heap.size) r d i l → Calls Tryd.prog 49 #[.agg (msgA r d i l)] w3 fun e w' => e = .returned (.int .i64 (r.check : Int)) ∧ Below w3.heap.size w3 w') := Lib.hid fun d i l w3 h => check_any r d i l w3 h
        have HRP3 : Hid (readP (k :: s) = if r.check = 0 then .ok r else .error r.check) := Lib.hid (by rw [HRP2.out, hfold])
        obtain ⟨ck, hck⟩ : ∃ ck, r.check = ck := ⟨_, rfl⟩
        rw [hck] at HCK HRP3
        clear hfold
        by_cases hc0 : ck = 0
        · subst hc0
          have HE : Hid (readP (k :: s) = .ok r) := Lib.hid (by rw [HRP3.out, if_pos rfl])
          go_enter Tryd.func31, Tryd.ntmps31
          go_wp2_with (first
            | (refine wpList_build rfl 69 #[] rfl (by kernel_rfl) ?_; simp only [List.map_toArray, List.map_nil]; rw [HZ0.out])
            | (refine wpList_build rfl 69 _ rfl (by kernel_rfl) ?_; simp only [List.map_toArray, List.map_cons, List.map_nil])
            | (rw [HZ1.out]; refine wpList_store_arrW rfl 69 _ _ rfl (w.heap.size + 1) M1 rfl rfl 69 _ (Blk.newAt _ _ (by simp) rfl) (by rw [HZS1.out]; kernel_rfl) (by rw [HZS1.out]; rfl) HZA1.out ?_; intro W2 hS2 hz2 hb2 ho2; have hcK2 := hcK.out W2 hS2; have hz2' : W2.heap.size = w.heap.size + 2 := (by rw [hz2]; simp); have hb2' : Below w.heap.size w W2 := (((Below.refl _ w).alloc (Nat.le_refl _) _).alloc (by simp) _).trans (hb2.mono (by omega)); obtain ⟨old, kB2, hos⟩ : ∃ old, Blk W2 w.heap.size 69 old ∧ old.size = 41 := ⟨_, (ho2 w.heap.size (by omega)).trans ((Blk.new w 69 _).alloc _), rfl⟩; clear hz2 hb2 ho2)
            | (go_at_call 52; refine (isKind_any _ _).mono ?_; rintro e w2 ⟨rfl, rfl⟩)
            | (go_at_call 53; refine (HRF.out w2 hS2 hb2').mono ?_; rintro e w3 ⟨hG3, hout⟩; have kB3 := kB2.grown hG3 (by intro e; injection e with e; omega); have hb3 := hb2'.grown hG3 (by omega) (fun k hk => by injection hk with hk; omega); obtain ⟨rfl, d, i, l, hg3, hR3⟩ := HOE.out w2 e w3 hout; have hck3 := HCK.out d i l w3 (hR3.mono fun b hb => hb.2); have hs2 : (msgA r d i l).size = 41 := arr_size _ _; have ha2 := msg_all hR3; obtain ⟨M2, hM2⟩ : ∃ M2, msgA r d i l = M2 := ⟨_, rfl⟩; rw [hM2] at hg3 hck3 hs2 ha2; clear hout)
            | (go_at_call 49; refine hck3.mono ?_; rintro e w4 ⟨rfl, hb4⟩; have kB4 := kB3.below hb4 kB3.lt; have hg4 := hg3.below hb4 hg3.lt)
            | (refine wpList_load_arr rfl 69 _ rfl (w.heap.size + 1) rfl 69 M2 _ hg4 Tryd.underlying69 rfl (by rw [hs2]; kernel_rfl) ?_)
            | (refine wpList_load_arr rfl 69 _ rfl (w.heap.size + 1) rfl 69 M2 _ hg3 Tryd.underlying69 rfl (by rw [hs2]; kernel_rfl) ?_)
            | (refine wpList_store_arrW rfl 69 _ _ rfl w.heap.size M2 rfl rfl 69 _ kB4 (by rw [hs2]; kernel_rfl) (by rw [hs2]; exact hos) ha2 ?_; intro W9 hS9 hz9 hb9 ho9))
          refine bodyPost_ret (results_cell_tmp (p := 2) (q := 3) rfl _ _ w.heap.size 69 _ _ rfl hS9 Tryd.underlying69 rfl (by rw [hs2]; kernel_rfl)) rfl ?_
          have hz4 := hb4.size
          have hG3s := hG3.size
          refine ⟨?_, (hb3.trans (hb4.mono (by omega))).trans (hb9.mono (Nat.le_refl _))⟩
          have := HO2.out r d i l W9 HE.out ((hR3.kept fun a x ha h => (World.cell?_of_block (ho9 a.block (by have := ha.1; omega))).trans ((hb4.cell (p := a) ha.2).trans h)).mono fun b hb => ⟨by have := hb.1; omega, by rw [hz9]; exact Nat.lt_of_lt_of_le hb.2 hz4⟩)
          rw [hM2] at this
          exact this
        · have HE : Hid (readP (k :: s) = .error ck) := Lib.hid (by rw [HRP3.out, if_neg hc0])
          have d0 : ((ck : Int) == 0) = false := by simpa using hc0
          have d1 : ((ck : Int) != 0) = true := by simpa using hc0
          go_enter Tryd.func31, Tryd.ntmps31
          go_wp2_with (first
            | (refine wpList_build rfl 69 #[] rfl (by kernel_rfl) ?_; simp only [List.map_toArray, List.map_nil]; rw [HZ0.out])
            | (refine wpList_build rfl 69 _ rfl (by kernel_rfl) ?_; simp only [List.map_toArray, List.map_cons, List.map_nil])
            | (rw [HZ1.out]; refine wpList_store_arrW rfl 69 _ _ rfl (w.heap.size + 1) M1 rfl rfl 69 _ (Blk.newAt _ _ (by simp) rfl) (by rw [HZS1.out]; kernel_rfl) (by rw [HZS1.out]; rfl) HZA1.out ?_; intro W2 hS2 hz2 hb2 ho2; have hcK2 := hcK.out W2 hS2; have hz2' : W2.heap.size = w.heap.size + 2 := (by rw [hz2]; simp); have hb2' : Below w.heap.size w W2 := (((Below.refl _ w).alloc (Nat.le_refl _) _).alloc (by simp) _).trans (hb2.mono (by omega)); obtain ⟨old, kB2, hos⟩ : ∃ old, Blk W2 w.heap.size 69 old ∧ old.size = 41 := ⟨_, (ho2 w.heap.size (by omega)).trans ((Blk.new w 69 _).alloc _), rfl⟩; clear hz2 hb2 ho2)
            | (go_at_call 52; refine (isKind_any _ _).mono ?_; rintro e w2 ⟨rfl, rfl⟩)
            | (go_at_call 53; refine (HRF.out w2 hS2 hb2').mono ?_; rintro e w3 ⟨hG3, hout⟩; have kB3 := kB2.grown hG3 (by intro e; injection e with e; omega); have hb3 := hb2'.grown hG3 (by omega) (fun k hk => by injection hk with hk; omega); obtain ⟨rfl, d, i, l, hg3, hR3⟩ := HOE.out w2 e w3 hout; have hck3 := HCK.out d i l w3 (hR3.mono fun b hb => hb.2); have hs2 : (msgA r d i l).size = 41 := arr_size _ _; have ha2 := msg_all hR3; obtain ⟨M2, hM2⟩ : ∃ M2, msgA r d i l = M2 := ⟨_, rfl⟩; rw [hM2] at hg3 hck3 hs2 ha2; clear hout)
            | (go_at_call 49; refine hck3.mono ?_; rintro e w4 ⟨rfl, hb4⟩; have kB4 := kB3.below hb4 kB3.lt; have hg4 := hg3.below hb4 hg3.lt)
            | (refine wpList_load_arr rfl 69 _ rfl (w.heap.size + 1) rfl 69 M2 _ hg3 Tryd.underlying69 rfl (by rw [hs2]; kernel_rfl) ?_)
            | (refine wpList_store_arrW rfl 69 _ _ rfl w.heap.size Z rfl rfl 69 _ (kB4) (by rw [HZS.out]; kernel_rfl) (by rw [HZS.out]; exact hos) HZA.out ?_; intro W9 hS9 hz9 hb9 ho9))
          refine bodyPost_ret (results_cell_tmp (p := 2) (q := 3) rfl _ _ w.heap.size 69 _ _ rfl hS9 Tryd.underlying69 rfl (by rw [HZS.out]; kernel_rfl)) rfl ?_
          exact ⟨HO.out ck _ HE.out hc0, (hb3.trans (hb4.mono (by have := hG3.size; omega))).trans (hb9.mono (Nat.le_refl _))⟩
end Go.Proofs.YtkbdkeclbokhdaaDoor
