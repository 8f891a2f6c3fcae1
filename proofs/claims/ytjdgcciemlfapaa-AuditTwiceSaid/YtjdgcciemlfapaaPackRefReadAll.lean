/-
  The reference's Read: of any string, in whatever memory: what the plain mathematics says.
-/
import Derived.Test.YtjdgcciemlfapaaQRp
import Derived.Test.YtjdgcciemlfapaaPackRefCheck
namespace Go.Proofs.Ytjdgcciemlfapaa
open Go Go.RowKit PackMath

set_option maxRecDepth 100000 in
set_option maxHeartbeats 4000000 in
theorem refPut_nil (r : Raw) (d i l : Value) (t : Int) (w : World) (hr : RdR w (fun b => b < w.heap.size) r d i l) :
    Calls Try.prog 27 #[.agg (msgA r d i l), .int .i64 t, .string ⟨#[]⟩] w fun e w' => (∃ M, e = .returned (.tuple #[.agg M, .int .i64 23]) ∧ M.size = 41 ∧ M.all (·.oneCell') = true) ∧ Below w.heap.size w w' := by
  have hs : (msgA r d i l).size = 41 := arr_size _ _
  have ha : (msgA r d i l).all (·.oneCell') = true := msg_all hr
  have hem : (⟨#[]⟩ : ByteArray).toList.isEmpty = true := by rw [ByteArray.toList_eq]; rfl
  obtain ⟨S, hS⟩ : ∃ S : ByteArray, ⟨#[]⟩ = S := ⟨_, rfl⟩
  obtain ⟨M, hM⟩ : ∃ M, msgA r d i l = M := ⟨_, rfl⟩
  rw [hM] at hs ha ⊢
  rw [hS] at hem ⊢
  have HSZ := Lib.hid hs
  have HA := Lib.hid ha
  have hR0 : Hid (∀ ob, Blk ((w.alloc (.cells M 28)).alloc ob) w.heap.size 28 M) := Lib.hid fun ob => (Blk.new _ _ _).alloc _
  clear hs ha hS hM hr
  go_enter Try.func27, Try.ntmps27
  go_wp2_with (first
    | (guard_target = wpList _ _ _ (Oper.mk _ (.load 28 _) _ _ _ _ :: _) _ _; refine wpList_load_row rfl 28 _ rfl (w.heap.size) rfl 28 (M) (0, 0) _ (hR0.out _) Try.underlying28 rfl (by rw [HSZ.out]; kernel_rfl) ?_)
    | (guard_target = wpList _ _ _ (Oper.mk _ (.store 28 _ _) _ _ _ _ :: _) _ _; refine wpList_store_arrW rfl 28 _ _ rfl (w.heap.size + 1) (M) rfl rfl 28 _ (Blk.newAt _ _ (by simp) rfl) (by rw [HSZ.out]; kernel_rfl) (by rw [HSZ.out]; rfl) (HA.out) ?_; intro W9 hS9 hz9 hb9 ho9))
  refine bodyPost_ret (results_cell_tmp (p := 6) (q := 7) rfl _ _ (w.heap.size + 1) 28 _ _ rfl hS9 Try.underlying28 rfl (by rw [HSZ.out]; kernel_rfl)) rfl ?_
  exact ⟨⟨M, rfl, HSZ.out, HA.out⟩, (((Below.refl _ w).alloc (Nat.le_refl _) _).alloc (by simp) _).trans (hb9.mono (by omega))⟩
theorem check_m {r : Raw} (hN : r.NN) : r.check = check r.m := by
  obtain ⟨n0, n1, n2, n3, n4, n5⟩ := hN
  have e1 : (r.kind < 1 ∨ 31 < r.kind) ↔ (r.kind.toNat < 1 ∨ 31 < r.kind.toNat) := by omega
  have e2 : (r.who < 0 ∨ 1099511627776 < r.who ∨ r.height < 0 ∨ 1099511627776 < r.height ∨ r.round < 0 ∨ 1099511627776 < r.round ∨ r.valid < 0 ∨ 1099511627776 < r.valid ∨ r.num < 0 ∨ 1099511627776 < r.num) ↔ (1099511627776 < r.who.toNat ∨ 1099511627776 < r.height.toNat ∨ 1099511627776 < r.round.toNat ∨ 1099511627776 < r.valid.toNat ∨ 1099511627776 < r.num.toNat) := by omega
  unfold Raw.check check
  simp only [Raw.m, List.length_map, e1, e2]
  by_cases c1 : r.kind.toNat < 1 ∨ 31 < r.kind.toNat
  · simp only [if_pos c1]
  · by_cases c2 : 1099511627776 < r.who.toNat ∨ 1099511627776 < r.height.toNat ∨ 1099511627776 < r.round.toNat ∨ 1099511627776 < r.valid.toNat ∨ 1099511627776 < r.num.toNat
    · simp only [if_neg c1, if_pos c2]
    · simp only [if_neg c1, if_neg c2]
      by_cases c3 : 64 < r.ids.length ∨ 64 < r.list.length
      · simp only [if_pos c3]
      · simp only [if_neg c3]
        by_cases c4 : 131072 < r.data.length + (List.map List.length r.list).sum
        · simp only [if_pos c4]
          exact (if_pos c4).symm
        · simp only [if_neg c4]
          exact (if_neg c4).symm
/-- What holds in a round. -/
structure ReadAt (w0 : World) (bs s : List UInt8) (k0 : Nat) (Z : Array Value) (k last : Nat) (wr : World) (r : Raw) (d i l : Value) : Prop where
  ge : 1 ≤ k
  le : k ≤ bs.length
  last9 : last ≤ 9
  math : fields 0 (M.zero k0) s = fields last r.m (bs.drop k)
  nn : r.NN
  res : Blk wr w0.heap.size 28 Z
  at_ : Blk wr (w0.heap.size + 1) 28 (msgA r d i l)
  rd : RdR wr (fun b => w0.heap.size + 2 ≤ b ∧ b < wr.heap.size) r d i l
  nil8 : last < 8 → i = nilS
  nil9 : last < 9 → l = nilS
  size : w0.heap.size + 2 ≤ wr.heap.size
  below : Below w0.heap.size w0 wr
/-- What Read hands back. -/
def RefReadOut (bs : List UInt8) (e : Ending) (w' : World) : Prop :=
  match readM bs with
  | .error c => e = .returned (.tuple #[.agg (msgA (zeroRaw 0) nilS nilS nilS), .int .i64 (c : Int)])
  | .ok m => ∃ r d i l, r.m = m ∧ r.NN ∧ e = .returned (.tuple #[.agg (msgA r d i l), .int .i64 0]) ∧ RdR w' (fun b => b < w'.heap.size) r d i l
theorem fields_21 {last : Nat} {m : M} {t : UInt8} {s : List UInt8} (h : t.toNat ≤ last ∨ 9 < t.toNat) : fields last m (t :: s) = .error 21 := by
  rw [fields.eq_def]
  simp only
  rw [if_pos h]
theorem fields_20 {last : Nat} {m : M} {t : UInt8} {s : List UInt8} (h : ¬ (t.toNat ≤ last ∨ 9 < t.toNat)) (ht : take3 s = none) : fields last m (t :: s) = .error 20 := by
  rw [fields.eq_def]
  simp only
  rw [if_neg h]
  split
  · rfl
  · rename_i e; rw [ht] at e; cases e
theorem fields_go {last : Nat} {m : M} {t : UInt8} {s x y : List UInt8} (h : ¬ (t.toNat ≤ last ∨ 9 < t.toNat)) (ht : take3 s = some (x, y)) : fields last m (t :: s) = if x = [] then .error 23 else match put m x t.toNat with | .error c => .error c | .ok m' => fields t.toNat m' y := by
  rw [fields.eq_def]
  simp only
  rw [if_neg h]
  split
  · rename_i e; rw [ht] at e; cases e
  · rename_i x' y' e
    rw [ht] at e
    injection e with e
    injection e with e1 e2
    subst e1; subst e2
    rfl
set_option maxRecDepth 100000 in
set_option maxHeartbeats 16000000 in
theorem refRead_any (bs : List UInt8) (hm : bs.length ≤ 140737488351232) (w : World) :
    Calls Try.prog 10 #[.string ⟨bs.toArray⟩] w fun e w' => RefReadOut bs e w' ∧ Below w.heap.size w w' := by
  have HZB := Lib.hid built_msg0
  have hz : (msgA (zeroRaw 0) nilS nilS nilS).size = 41 := arr_size _ _
  have hza : (msgA (zeroRaw 0) nilS nilS nilS).all (·.oneCell') = true := msg_all (zero_rd w (fun _ => False) 0)
  have hsz := ba_len bs
  have hI := fun j z hz hj => idx_str bs j z hz hj
  cases bs with
  | nil =>
    have hem : (⟨([] : List UInt8).toArray⟩ : ByteArray).toList.isEmpty = true := by rw [ByteArray.toList_eq]; rfl
    obtain ⟨S, hS⟩ : ∃ S : ByteArray, ⟨([] : List UInt8).toArray⟩ = S := ⟨_, rfl⟩
    obtain ⟨Z, hZ⟩ : ∃ Z, msgA (zeroRaw 0) nilS nilS nilS = Z := ⟨_, rfl⟩
    rw [hZ] at HZB hz hza
    rw [hS] at hem ⊢
    have HZS := Lib.hid hz
    have HZA := Lib.hid hza
    have HZ := Lib.hid hZ
    clear hz hza hsz hI hS hZ
    go_enter Try.func10, Try.ntmps10
    go_wp2_with (first
      | (guard_target = wpList _ _ _ (Oper.mk _ (.build _ #[]) _ _ _ _ :: _) _ _; refine wpList_build rfl 28 _ rfl (by kernel_rfl) ?_; simp only [List.map_toArray, List.map_nil]; rw [HZB.out])
      | (guard_target = wpList _ _ _ (Oper.mk _ (.store 28 _ _) _ _ _ _ :: _) _ _; refine wpList_store_arrW rfl 28 _ _ rfl (w.heap.size) (Z) rfl rfl 28 _ (Blk.newAt _ _ rfl rfl) (by rw [HZS.out]; kernel_rfl) (by rw [HZS.out]; rfl) (HZA.out) ?_; intro W9 hS9 hz9 hb9 ho9))
    refine bodyPost_ret (results_cell_tmp (p := 2) (q := 3) rfl _ _ w.heap.size 28 _ _ rfl hS9 Try.underlying28 rfl (by rw [HZS.out]; kernel_rfl)) rfl ?_
    exact ⟨by unfold RefReadOut; rw [HZ.out]; rfl, ((Below.refl _ w).alloc (Nat.le_refl _) _).trans hb9⟩
  | cons k0 s =>
    have hem := str_some (bs := k0 :: s) (by simp)
    have i0 := fun w' => hI 0 0 rfl (by simp) w'
    rw [List.getD_cons_zero] at i0
    unfold bv at i0
    have hk256 := k0.toNat_lt
    obtain ⟨bs, hbs⟩ : ∃ bs, k0 :: s = bs := ⟨_, rfl⟩
    have hread : readM bs = if k0.toNat < 1 ∨ 31 < k0.toNat then .error 21 else
        match fields 0 (M.zero k0.toNat) s with
        | .error e => .error e
        | .ok m => if check m = 0 then .ok m else .error (check m) := by rw [← hbs]; rfl
    have hdrop : bs.drop 1 = s := by rw [← hbs]; rfl
    have hpos : 1 ≤ bs.length := by rw [← hbs]; simp
    rw [hbs] at hm hsz hI i0 hem ⊢
    obtain ⟨S, hS⟩ : ∃ S : ByteArray, ⟨bs.toArray⟩ = S := ⟨_, rfl⟩
    obtain ⟨Z, hZ⟩ : ∃ Z, msgA (zeroRaw 0) nilS nilS nilS = Z := ⟨_, rfl⟩
    have htk := fun k hk W => refTake_any bs k hk (by omega) W
    rw [hZ] at HZB hz hza
    rw [hS] at hem hsz hI i0 htk ⊢
    have HZS := Lib.hid hz
    have HZA := Lib.hid hza
    have HZ := Lib.hid hZ
    have HREAD := Lib.hid hread
    have HDROP := Lib.hid hdrop
    have HTK := Lib.hid htk
    have HIX := Lib.hid hI
    have HPOS := Lib.hid (And.intro hpos hm)
    have HERR : Hid (∀ (c : Nat) W, readM bs = .error c → RefReadOut bs (.returned (.tuple #[.agg Z, .int .i64 (c : Int)])) W) := Lib.hid fun c W h => by
      unfold RefReadOut
      rw [h, hZ]
    clear hz hza hS hZ hread hdrop hpos htk hI hbs
    by_cases hk : k0.toNat < 1 ∨ 31 < k0.toNat
    · have hE : Hid (readM bs = .error 21) := Lib.hid (by rw [HREAD.out, if_pos hk])
      by_cases hk1 : k0.toNat < 1
      · have hk1' : (k0.toNat : Int) < 1 := by omega
        clear hk
        go_enter Try.func10, Try.ntmps10
        go_wp2_with (first
          | (guard_target = wpList _ _ _ (Oper.mk _ (.build _ #[]) _ _ _ _ :: _) _ _; refine wpList_build rfl 28 _ rfl (by kernel_rfl) ?_; simp only [List.map_toArray, List.map_nil]; rw [HZB.out])
          | (guard_target = wpList _ _ _ (Oper.mk _ (.store 28 _ _) _ _ _ _ :: _) _ _; refine wpList_store_arrW rfl 28 _ _ rfl (w.heap.size) (Z) rfl rfl 28 _ (Blk.newAt _ _ rfl rfl) (by rw [HZS.out]; kernel_rfl) (by rw [HZS.out]; rfl) (HZA.out) ?_; intro W9 hS9 hz9 hb9 ho9))
        refine bodyPost_ret (results_cell_tmp (p := 2) (q := 3) rfl _ _ w.heap.size 28 _ _ rfl hS9 Try.underlying28 rfl (by rw [HZS.out]; kernel_rfl)) rfl ?_
        exact ⟨HERR.out 21 _ hE.out, ((Below.refl _ w).alloc (Nat.le_refl _) _).trans hb9⟩
      · have hk1' : decide ((k0.toNat : Int) < 1) = false := decide_eq_false (by omega)
        have hk2' : (31 : Int) < (k0.toNat : Int) := by omega
        clear hk
        go_enter Try.func10, Try.ntmps10
        go_wp2_with (first
          | (guard_target = wpList _ _ _ (Oper.mk _ (.build _ #[]) _ _ _ _ :: _) _ _; refine wpList_build rfl 28 _ rfl (by kernel_rfl) ?_; simp only [List.map_toArray, List.map_nil]; rw [HZB.out])
          | (guard_target = wpList _ _ _ (Oper.mk _ (.store 28 _ _) _ _ _ _ :: _) _ _; refine wpList_store_arrW rfl 28 _ _ rfl (w.heap.size) (Z) rfl rfl 28 _ (Blk.newAt _ _ rfl rfl) (by rw [HZS.out]; kernel_rfl) (by rw [HZS.out]; rfl) (HZA.out) ?_; intro W9 hS9 hz9 hb9 ho9))
        refine bodyPost_ret (results_cell_tmp (p := 2) (q := 3) rfl _ _ w.heap.size 28 _ _ rfl hS9 Try.underlying28 rfl (by rw [HZS.out]; kernel_rfl)) rfl ?_
        exact ⟨HERR.out 21 _ hE.out, ((Below.refl _ w).alloc (Nat.le_refl _) _).trans hb9⟩
    · have hk1' : decide ((k0.toNat : Int) < 1) = false := decide_eq_false (by omega)
      have hk2' : decide ((31 : Int) < (k0.toNat : Int)) = false := decide_eq_false (by omega)
      have hkw : IntKind.i64.wrap (k0.toNat : Int) = (k0.toNat : Int) := by rw [IntKind.wrap_i64]; omega
      have HREAD2 : Hid (readM bs = match fields 0 (M.zero k0.toNat) s with
        | .error e => .error e
        | .ok m => if check m = 0 then .ok m else .error (check m)) := Lib.hid (by rw [HREAD.out, if_neg hk])
      have hz1 := built_msg1 (k0.toNat : Int)
      have hza1 : (msgA (zeroRaw (k0.toNat : Int)) nilS nilS nilS).all (·.oneCell') = true := msg_all (zero_rd w (fun _ => False) _)
      have hzs1 : (msgA (zeroRaw (k0.toNat : Int)) nilS nilS nilS).size = 41 := arr_size _ _
      obtain ⟨M1, hM1⟩ : ∃ M1, msgA (zeroRaw (k0.toNat : Int)) nilS nilS nilS = M1 := ⟨_, rfl⟩
      rw [hM1] at hz1 hza1 hzs1
      have HM1 := Lib.hid hM1
      have HZ1 := Lib.hid hz1
      have HZA1 := Lib.hid hza1
      have HZS1 := Lib.hid hzs1
      clear hk hz1 hza1 hzs1 hM1
      go_enter Try.func10, Try.ntmps10
      go_wp2_with (first
        | (guard_target = wpList _ _ _ (Oper.mk _ (.build _ _) _ _ _ _ :: _) _ _; refine wpList_build rfl 28 _ rfl (by kernel_rfl) ?_; simp only [List.map_toArray, List.map_cons, List.map_nil, Act.eval]; first | rw [HZ1.out] | (simp only [Array.getD_eq_getD_getElem?, List.getElem?_toArray, List.getElem?_cons_succ, List.getElem?_cons_zero, Option.getD_some]; rw [HZ1.out]))
        | (guard_target = wpList _ _ _ (Oper.mk _ (.store 28 _ _) _ _ _ _ :: _) _ _; refine wpList_store_arrW rfl 28 _ _ rfl (w.heap.size + 1) (M1) rfl rfl 28 _ (Blk.newAt _ _ (by simp) rfl) (by rw [HZS1.out]; kernel_rfl) (by rw [HZS1.out]; rfl) (HZA1.out) ?_; intro W2 hS2 hz2 hb2 ho2; have hx2 : Blk W2 w.heap.size 28 Z := (ho2 _ (by omega)).trans ((Blk.newAt w w.heap.size rfl (by rw [← HZ.out]; kernel_rfl)).alloc _); have hw2 : Below w.heap.size w W2 := (((Below.refl _ w).alloc (Nat.le_refl _) _).alloc (by simp) _).trans (hb2.mono (by omega)); have HST := Lib.hid (And.intro hS2 (And.intro hx2 (And.intro hw2 hz2))); clear hS2 hx2 hw2 hz2 hb2 ho2))
      have hst := HST.out
      have hzz : W2.heap.size = w.heap.size + 2 := by rw [hst.2.2.2]; simp
      have hrr : ReadAt w bs s k0.toNat Z 1 0 W2 (zeroRaw (k0.toNat : Int)) nilS nilS nilS := by
        have hzm : (zeroRaw (k0.toNat : Int)).m = M.zero k0.toNat := by
          simp only [Raw.m, zeroRaw, M.zero, id32_zero]
          simp
        exact ⟨Nat.le_refl _, HPOS.out.1, by omega, by rw [HDROP.out, hzm], ⟨by show (0 : Int) ≤ k0.toNat; omega, Int.le_refl _, Int.le_refl _, Int.le_refl _, Int.le_refl _, Int.le_refl _⟩, hst.2.1, by rw [HM1.out]; exact hst.1, zero_rd _ _ _, fun _ => rfl, fun _ => rfl, by omega, hst.2.2.1⟩
      have HRR := Lib.hid hrr
      clear hst hzz hrr HST hk1' hk2' hkw i0 hem
      go_loopw [5, 6] (fun v u wr => ∃ (k last : Nat) (r : Raw) (d i l : Value), v = .int .i64 (k : Int) ∧ u = .int .i64 (last : Int) ∧ ReadAt w bs s k0.toNat Z k last wr r d i l) (fun v _ _ => bs.length - (intOf v).toNat)
      case atStart => exact ⟨1, 0, _, _, _, _, rfl, rfl, HRR.out⟩
      case round =>
        clear HRR
        obtain ⟨k, last, r, d, i, l, rfl, rfl, hR⟩ := hrel
        have HR := Lib.hid hR
        have hmb : (bs.length : Int) ≤ 140737488351232 := by have := HPOS.out.2; omega
        have hlast : (last : Int) ≤ 9 := by have := hR.last9; omega
        have hkle := hR.le
        clear hR
        by_cases hlt : k < bs.length
        · have hkn : (k : Int) < (bs.length : Int) := by omega
          have hix := fun w' => HIX.out k (k : Int) rfl hlt w'
          obtain ⟨t, ht⟩ : ∃ t, bs.getD k 0 = t := ⟨_, rfl⟩
          rw [ht] at hix
          unfold bv at hix
          have hdk : Hid (bs.drop k = t :: bs.drop (k + 1)) := Lib.hid (by
            rw [List.drop_eq_getElem_cons hlt, ← ht, List.getD_eq_getElem?_getD, List.getElem?_eq_getElem hlt]
            rfl)
          have ht256 := t.toNat_lt
          obtain ⟨ti, hti⟩ : ∃ ti : Int, (t.toNat : Int) = ti := ⟨_, rfl⟩
          rw [hti] at hix
          have HTI := Lib.hid hti
          have hti0 : 0 ≤ ti := by omega
          have hti1 : ti < 256 := by omega
          have htw : IntKind.i64.wrap ti = ti := by rw [IntKind.wrap_i64]; omega
          clear ht ht256
          by_cases hbad : t.toNat ≤ last ∨ 9 < t.toNat
          · have hE : Hid (readM bs = .error 21) := Lib.hid (by rw [HREAD2.out, HR.out.math, hdk.out, fields_21 hbad])
            by_cases hb1 : t.toNat ≤ last
            · have d1 : ti ≤ (last : Int) := by omega
              clear hbad hti
              go_wp2_with (first
                | (guard_target = wpList _ _ _ (Oper.mk _ (.build _ #[]) _ _ _ _ :: _) _ _; refine wpList_build rfl 28 _ rfl (by kernel_rfl) ?_; simp only [List.map_toArray, List.map_nil]; rw [HZB.out])
                | (guard_target = wpList _ _ _ (Oper.mk _ (.store 28 _ _) _ _ _ _ :: _) _ _; refine wpList_store_arrW rfl 28 _ _ rfl (w.heap.size) (Z) rfl rfl 28 _ (HR.out.res) (by rw [HZS.out]; kernel_rfl) (by rw [HZS.out]) (HZA.out) ?_; intro W9 hS9 hz9 hb9 ho9))
              refine bodyPost_ret (results_cell_tmp (p := 2) (q := 3) rfl _ _ w.heap.size 28 _ _ rfl hS9 Try.underlying28 rfl (by rw [HZS.out]; kernel_rfl)) rfl ?_
              exact ⟨HERR.out 21 _ hE.out, HR.out.below.trans (hb9.mono (by omega))⟩
            · have d1 : decide (ti ≤ (last : Int)) = false := decide_eq_false (by omega)
              have d2 : (9 : Int) < ti := by omega
              clear hbad hti
              go_wp2_with (first
                | (guard_target = wpList _ _ _ (Oper.mk _ (.build _ #[]) _ _ _ _ :: _) _ _; refine wpList_build rfl 28 _ rfl (by kernel_rfl) ?_; simp only [List.map_toArray, List.map_nil]; rw [HZB.out])
                | (guard_target = wpList _ _ _ (Oper.mk _ (.store 28 _ _) _ _ _ _ :: _) _ _; refine wpList_store_arrW rfl 28 _ _ rfl (w.heap.size) (Z) rfl rfl 28 _ (HR.out.res) (by rw [HZS.out]; kernel_rfl) (by rw [HZS.out]) (HZA.out) ?_; intro W9 hS9 hz9 hb9 ho9))
              refine bodyPost_ret (results_cell_tmp (p := 2) (q := 3) rfl _ _ w.heap.size 28 _ _ rfl hS9 Try.underlying28 rfl (by rw [HZS.out]; kernel_rfl)) rfl ?_
              exact ⟨HERR.out 21 _ hE.out, HR.out.below.trans (hb9.mono (by omega))⟩
          · have d1 : decide (ti ≤ (last : Int)) = false := decide_eq_false (by omega)
            have d2 : decide ((9 : Int) < ti) = false := decide_eq_false (by omega)
            have HB := Lib.hid hbad
            have htk := HTK.out (k + 1) (by omega) wr
            rw [show ((k + 1 : Nat) : Int) = (k : Int) + 1 from by omega] at htk
            clear hbad hti
            cases htt : take3 (bs.drop (k + 1)) with
            | none =>
              have hE : Hid (readM bs = .error 20) := Lib.hid (by rw [HREAD2.out, HR.out.math, hdk.out, fields_20 HB.out htt])
              have HT : Hid (Calls Try.prog 26 #[.string S, .int .i64 ((k : Int) + 1)] wr fun e w' => (∃ z : Int, e = .returned (.tuple #[.string ⟨#[]⟩, .int .i64 z, .bool false])) ∧ Below wr.heap.size wr w') := Lib.hid (by
                refine htk.mono ?_
                rintro e w' ⟨h1, h2⟩
                unfold TakeOut at h1
                rw [htt] at h1
                exact ⟨⟨_, h1⟩, h2⟩)
              clear htk htt
              go_wp2_with (first
                | (go_at_call 26; refine HT.out.mono ?_; rintro e w1 ⟨⟨z, rfl⟩, hb1⟩; have hx1 := HR.out.res.below hb1 HR.out.res.lt; have HW1 := Lib.hid (HR.out.below.trans (hb1.mono (by have := HR.out.size; omega))); clear hb1)
                | (guard_target = wpList _ _ _ (Oper.mk _ (.build _ #[]) _ _ _ _ :: _) _ _; refine wpList_build rfl 28 _ rfl (by kernel_rfl) ?_; simp only [List.map_toArray, List.map_nil]; rw [HZB.out])
                | (guard_target = wpList _ _ _ (Oper.mk _ (.store 28 _ _) _ _ _ _ :: _) _ _; refine wpList_store_arrW rfl 28 _ _ rfl (w.heap.size) (Z) rfl rfl 28 _ (hx1) (by rw [HZS.out]; kernel_rfl) (by rw [HZS.out]) (HZA.out) ?_; intro W9 hS9 hz9 hb9 ho9))
              refine bodyPost_ret (results_cell_tmp (p := 2) (q := 3) rfl _ _ w.heap.size 28 _ _ rfl hS9 Try.underlying28 rfl (by rw [HZS.out]; kernel_rfl)) rfl ?_
              exact ⟨HERR.out 20 _ hE.out, HW1.out.trans (hb9.mono (by omega))⟩
            | some xy =>
              obtain ⟨x, y⟩ := xy
              have htd := take3_drop htt
              have HX24 := Lib.hid (take3_len htt)
              have HT : Hid (Calls Try.prog 26 #[.string S, .int .i64 ((k : Int) + 1)] wr fun e w' => e = .returned (.tuple #[.string ⟨x.toArray⟩, .int .i64 ((k + 1 + 3 + x.length : Nat) : Int), .bool true]) ∧ Below wr.heap.size wr w') := Lib.hid (by
                refine htk.mono ?_
                rintro e w' ⟨h1, h2⟩
                unfold TakeOut at h1
                rw [htt] at h1
                exact ⟨h1, h2⟩)
              have hmath : Hid (readM bs = match (if x = [] then .error 23 else match put r.m x t.toNat with | .error c => .error c | .ok m' => fields t.toNat m' y : Except Nat M) with
                | .error e => .error e
                | .ok m => if check m = 0 then .ok m else .error (check m)) := Lib.hid (by rw [HREAD2.out, HR.out.math, hdk.out, fields_go HB.out htt])
              have hmath2 : Hid (fields 0 (M.zero k0.toNat) s = if x = [] then .error 23 else match put r.m x t.toNat with | .error c => .error c | .ok m' => fields t.toNat m' y) := Lib.hid (by rw [HR.out.math, hdk.out, fields_go HB.out htt])
              have HTD := Lib.hid htd
              obtain ⟨k2, hk2⟩ : ∃ k2, k + 1 + 3 + x.length = k2 := ⟨_, rfl⟩
              rw [hk2] at HT
              have HK2 := Lib.hid hk2
              have hsr : (msgA r d i l).size = 41 := arr_size _ _
              obtain ⟨Mr, hMr⟩ : ∃ M, msgA r d i l = M := ⟨_, rfl⟩
              have hatr := HR.out.at_
              rw [hMr] at hsr hatr
              have HSR := Lib.hid hsr
              have HMR := Lib.hid hMr
              have HATR := Lib.hid hatr
              clear htk htt htd hk2 hsr hatr
              by_cases hx : x = []
              · have hE : Hid (readM bs = .error 23) := Lib.hid (by rw [hmath.out, if_pos hx])
                subst hx
                have HP : Hid (∀ W, Below wr.heap.size wr W → Calls Try.prog 27 #[.agg Mr, .int .i64 ti, .string ⟨([] : List UInt8).toArray⟩] W fun e w' => (∃ M, e = .returned (.tuple #[.agg M, .int .i64 23]) ∧ M.size = 41 ∧ M.all (·.oneCell') = true) ∧ Below W.heap.size W w') := Lib.hid fun W hb => by
                  rw [← HMR.out]
                  exact refPut_nil r d i l _ W ((HR.out.rd.kept fun a z ha hz => (hb.cell (p := a) ha.2).trans hz).mono fun b hb2 => Nat.lt_of_lt_of_le hb2.2 hb.size)
                clear hMr
                go_wp2_with (first
                  | (go_at_call 26; refine HT.out.mono ?_; rintro e w1 ⟨rfl, hb1⟩; have hx1 := HR.out.res.below hb1 HR.out.res.lt; have ha1 := HATR.out.below hb1 HATR.out.lt; have HB1 := Lib.hid hb1; have HW1 := Lib.hid (HR.out.below.trans (hb1.mono (by have := HR.out.size; omega))); clear hb1)
                  | (guard_target = wpList _ _ _ (Oper.mk _ (.load 28 _) _ _ _ _ :: _) _ _; refine wpList_load_row rfl 28 _ rfl (w.heap.size + 1) rfl 28 (Mr) (0, 0) _ (ha1) Try.underlying28 rfl (by rw [HSR.out]; kernel_rfl) ?_)
                  | (go_at_call 27; refine (HP.out _ HB1.out).mono ?_; rintro e w2 ⟨⟨M9, rfl, hs9, hal9⟩, hb2⟩; have hx2 := hx1.below hb2 hx1.lt; have ha2 := ha1.below hb2 ha1.lt; have HW2 := Lib.hid (HW1.out.trans (hb2.mono HW1.out.size)); have HS9 := Lib.hid hs9; have HAL9 := Lib.hid hal9; clear hb2 hs9 hal9 hx1 ha1)
                  | (guard_target = wpList _ _ _ (Oper.mk _ (.store 28 _ _) _ _ _ _ :: _) _ _; refine wpList_store_arrW rfl 28 _ _ rfl (w.heap.size + 1) (M9) rfl rfl 28 _ (ha2) (by rw [HS9.out]; kernel_rfl) (by rw [HS9.out, HSR.out]) (HAL9.out) ?_; intro W3 hS3 hz3 hb3 ho3; have hx3 : Blk W3 w.heap.size 28 Z := (ho3 _ (by omega)).trans hx2; have HW9 := Lib.hid (HW2.out.trans (hb3.mono (by omega))); clear hS3 hz3 hb3 ho3 hx2 ha2)
                  | (guard_target = wpList _ _ _ (Oper.mk _ (.build _ #[]) _ _ _ _ :: _) _ _; refine wpList_build rfl 28 _ rfl (by kernel_rfl) ?_; simp only [List.map_toArray, List.map_nil]; rw [HZB.out])
                  | (guard_target = wpList _ _ _ (Oper.mk _ (.store 28 _ _) _ _ _ _ :: _) _ _; refine wpList_store_arrW rfl 28 _ _ rfl (w.heap.size) (Z) rfl rfl 28 _ (hx3) (by rw [HZS.out]; kernel_rfl) (by rw [HZS.out]) (HZA.out) ?_; intro W9 hS9 hz9 hb9 ho9))
                refine bodyPost_ret (results_cell_tmp (p := 2) (q := 3) rfl _ _ w.heap.size 28 _ _ rfl hS9 Try.underlying28 rfl (by rw [HZS.out]; kernel_rfl)) rfl ?_
                exact ⟨HERR.out 23 _ hE.out, HW9.out.trans (hb9.mono (by omega))⟩
              · have hxl : x.length ≤ 100000000 := by have := HX24.out; omega
                have HP0 : Hid (∀ W, Below wr.heap.size wr W → Calls Try.prog 27 #[.agg Mr, .int .i64 ti, .string ⟨x.toArray⟩] W fun e w' => RefPutOut W (fun b => w.heap.size + 2 ≤ b ∧ b < wr.heap.size) r i l x t.toNat e w' ∧ Below W.heap.size W w') := Lib.hid fun W hb => by
                  rw [← HMR.out, ← HTI.out]
                  have hnb := HB.out
                  exact refPut_any r d i l x t.toNat _ hx hxl (by omega) (by omega) W (HR.out.rd.kept fun a z ha hz => (hb.cell (p := a) ha.2).trans hz) (fun b hb2 => Nat.lt_of_lt_of_le hb2.2 hb.size) HR.out.nn (fun h => HR.out.nil8 (by omega)) (fun h => HR.out.nil9 (by omega))
                clear hMr
                cases hput : put r.m x t.toNat with
                | error c =>
                  have hE : Hid (readM bs = .error c) := Lib.hid (by rw [hmath.out, if_neg hx, hput])
                  have HP : Hid (∀ W, Below wr.heap.size wr W → Calls Try.prog 27 #[.agg Mr, .int .i64 ti, .string ⟨x.toArray⟩] W fun e w' => (c ≠ 0 ∧ ∃ M, e = .returned (.tuple #[.agg M, .int .i64 (c : Int)]) ∧ M.size = 41 ∧ M.all (·.oneCell') = true) ∧ Below W.heap.size W w') := Lib.hid fun W hb => by
                    refine (HP0.out W hb).mono ?_
                    rintro e w' ⟨h1, h2⟩
                    unfold RefPutOut at h1
                    rw [hput] at h1
                    exact ⟨h1, h2⟩
                  clear HP0 hput hx
                  go_wp2_with (first
                    | (go_at_call 26; refine HT.out.mono ?_; rintro e w1 ⟨rfl, hb1⟩; have hx1 := HR.out.res.below hb1 HR.out.res.lt; have ha1 := HATR.out.below hb1 HATR.out.lt; have HB1 := Lib.hid hb1; have HW1 := Lib.hid (HR.out.below.trans (hb1.mono (by have := HR.out.size; omega))); clear hb1)
                    | (guard_target = wpList _ _ _ (Oper.mk _ (.load 28 _) _ _ _ _ :: _) _ _; refine wpList_load_row rfl 28 _ rfl (w.heap.size + 1) rfl 28 (Mr) (0, 0) _ (ha1) Try.underlying28 rfl (by rw [HSR.out]; kernel_rfl) ?_)
                    | (go_at_call 27; refine (HP.out _ HB1.out).mono ?_; rintro e w2 ⟨⟨hcn, M9, rfl, hs9, hal9⟩, hb2⟩; have hcz : ¬ (c : Int) = 0 := (by omega); have hcz2 : ((c : Int) != 0) = true := (by simpa using hcz); clear hcn; have hx2 := hx1.below hb2 hx1.lt; have ha2 := ha1.below hb2 ha1.lt; have HW2 := Lib.hid (HW1.out.trans (hb2.mono HW1.out.size)); have HS9 := Lib.hid hs9; have HAL9 := Lib.hid hal9; clear hb2 hs9 hal9 hx1 ha1)
                    | (guard_target = wpList _ _ _ (Oper.mk _ (.store 28 _ _) _ _ _ _ :: _) _ _; refine wpList_store_arrW rfl 28 _ _ rfl (w.heap.size + 1) (M9) rfl rfl 28 _ (ha2) (by rw [HS9.out]; kernel_rfl) (by rw [HS9.out, HSR.out]) (HAL9.out) ?_; intro W3 hS3 hz3 hb3 ho3; have hx3 : Blk W3 w.heap.size 28 Z := (ho3 _ (by omega)).trans hx2; have HW9 := Lib.hid (HW2.out.trans (hb3.mono (by omega))); clear hS3 hz3 hb3 ho3 hx2 ha2)
                    | (guard_target = wpList _ _ _ (Oper.mk _ (.build _ #[]) _ _ _ _ :: _) _ _; refine wpList_build rfl 28 _ rfl (by kernel_rfl) ?_; simp only [List.map_toArray, List.map_nil]; rw [HZB.out])
                    | (guard_target = wpList _ _ _ (Oper.mk _ (.store 28 _ _) _ _ _ _ :: _) _ _; refine wpList_store_arrW rfl 28 _ _ rfl (w.heap.size) (Z) rfl rfl 28 _ (hx3) (by rw [HZS.out]; kernel_rfl) (by rw [HZS.out]) (HZA.out) ?_; intro W9 hS9 hz9 hb9 ho9))
                  refine bodyPost_ret (results_cell_tmp (p := 2) (q := 3) rfl _ _ w.heap.size 28 _ _ rfl hS9 Try.underlying28 rfl (by rw [HZS.out]; kernel_rfl)) rfl ?_
                  exact ⟨HERR.out c _ hE.out, HW9.out.trans (hb9.mono (by omega))⟩
                | ok m' =>
                  have hE : Hid (fields 0 (M.zero k0.toNat) s = fields t.toNat m' y) := Lib.hid (by rw [hmath2.out, if_neg hx, hput])
                  have HP : Hid (∀ W, Below wr.heap.size wr W → Calls Try.prog 27 #[.agg Mr, .int .i64 ti, .string ⟨x.toArray⟩] W fun e w' => (∃ r' d' i' l', r'.m = m' ∧ r'.NN ∧ e = .returned (.tuple #[.agg (msgA r' d' i' l'), .int .i64 0]) ∧ (msgA r' d' i' l').all (·.oneCell') = true ∧ RdR w' (fun b => (w.heap.size + 2 ≤ b ∧ b < wr.heap.size) ∨ fresh W w' b) r' d' i' l' ∧ (t.toNat < 8 → i' = i ∧ r'.ids = r.ids) ∧ (t.toNat < 9 → l' = l ∧ r'.list = r.list)) ∧ Below W.heap.size W w') := Lib.hid fun W hb => by
                    refine (HP0.out W hb).mono ?_
                    rintro e w' ⟨h1, h2⟩
                    unfold RefPutOut at h1
                    rw [hput] at h1
                    exact ⟨h1, h2⟩
                  clear HP0 hput hx
                  go_wp2_with (first
                    | (go_at_call 26; refine HT.out.mono ?_; rintro e w1 ⟨rfl, hb1⟩; have hx1 := HR.out.res.below hb1 HR.out.res.lt; have ha1 := HATR.out.below hb1 HATR.out.lt; have HB1 := Lib.hid hb1; have HW1 := Lib.hid (HR.out.below.trans (hb1.mono (by have := HR.out.size; omega))); clear hb1)
                    | (guard_target = wpList _ _ _ (Oper.mk _ (.load 28 _) _ _ _ _ :: _) _ _; refine wpList_load_row rfl 28 _ rfl (w.heap.size + 1) rfl 28 (Mr) (0, 0) _ (ha1) Try.underlying28 rfl (by rw [HSR.out]; kernel_rfl) ?_)
                    | (go_at_call 27; refine (HP.out _ HB1.out).mono ?_; rintro e w2 ⟨⟨r', d', i', l', hm', hN', rfl, hal9, hrd', h8', h9'⟩, hb2⟩; have hx2 := hx1.below hb2 hx1.lt; have ha2 := ha1.below hb2 ha1.lt; have HW2 := Lib.hid (HW1.out.trans (hb2.mono HW1.out.size)); have hs9 : (msgA r' d' i' l').size = 41 := arr_size _ _; have HNW := Lib.hid (And.intro hm' (And.intro hN' (And.intro hrd' (And.intro h8' (And.intro h9' hb2))))); obtain ⟨M9, hM9⟩ : ∃ M9, msgA r' d' i' l' = M9 := ⟨_, rfl⟩; rw [hM9] at hal9 hs9; (try rw [hM9]); have HM9 := Lib.hid hM9; have HS9 := Lib.hid hs9; have HAL9 := Lib.hid hal9; clear hb2 hs9 hal9 hx1 ha1 hm' hN' hrd' h8' h9' hM9)
                    | (guard_target = wpList _ _ _ (Oper.mk _ (.store 28 _ _) _ _ _ _ :: _) _ _; refine wpList_store_arrW rfl 28 _ _ rfl (w.heap.size + 1) (M9) rfl rfl 28 _ (ha2) (by rw [HS9.out]; kernel_rfl) (by rw [HS9.out, HSR.out]) (HAL9.out) ?_; intro W3 hS3 hz3 hb3 ho3; have HNEW : Hid (ReadAt w bs s k0.toNat Z k2 t.toNat W3 r' d' i' l') := Lib.hid (by obtain ⟨hm', hN', hrd', h8', h9', hb2⟩ := HNW.out; have hsz1 := HB1.out.size; have hsz2 := hb2.size; have hszr := HR.out.size; have hnb := HB.out; have hk2' := HK2.out; have htd' := HTD.out; exact ⟨by omega, by omega, by omega, by rw [hE.out, hm', htd'.1, hk2'], hN', (ho3 _ (by omega)).trans hx2, by rw [HM9.out]; exact hS3, (hrd'.kept (W' := W3) fun a z ha hz => (World.cell?_of_block (ho3 a.block (ha.elim (fun h => by have := h.1; omega) (fun h => by have := h.1; omega)))).trans hz).mono fun b hb => (hb.elim (fun h => ⟨h.1, by have := h.2; rw [hz3]; omega⟩) (fun h => ⟨by have := h.1; omega, by rw [hz3]; exact h.2⟩)), fun h => by rw [(h8' h).1]; exact HR.out.nil8 (by omega), fun h => by rw [(h9' h).1]; exact HR.out.nil9 (by omega), by rw [hz3]; omega, HW2.out.trans (hb3.mono (by omega))⟩); clear hS3 hz3 hb3 ho3 hx2 ha2))
                  go_roundw
                  case rel => exact ⟨k2, t.toNat, r', d', i', l', rfl, by rw [HTI.out], HNEW.out⟩
                  case measure => have := HK2.out; have := HTD.out.2; simp [intOf]; omega
        · obtain rfl : k = bs.length := by omega
          have hdone : fields 0 (M.zero k0.toNat) s = .ok r.m := by
            rw [HR.out.math, List.drop_of_length_le (Nat.le_refl _), fields.eq_def]
          have hread3 : readM bs = if r.check = 0 then .ok r.m else .error r.check := by
            rw [HREAD2.out, hdone, check_m HR.out.nn]
          have hrd : RdR wr (fun b => b < wr.heap.size) r d i l := HR.out.rd.mono fun b hb => hb.2
          have hck := refCheck_any r d i l wr hrd
          have hsr : (msgA r d i l).size = 41 := arr_size _ _
          have hall := msg_all hrd
          have hatr := HR.out.at_
          obtain ⟨Mr, hMr⟩ : ∃ M, msgA r d i l = M := ⟨_, rfl⟩
          rw [hMr] at hsr hall hatr hck
          obtain ⟨ck, hckk⟩ : ∃ c, r.check = c := ⟨_, rfl⟩
          rw [hckk] at hck hread3
          have HSR := Lib.hid hsr
          have HAR := Lib.hid hall
          have HMR := Lib.hid hMr
          have HATR := Lib.hid hatr
          have HCK := Lib.hid hck
          have HR3 := Lib.hid hread3
          clear hdone hread3 hrd hck hsr hall hatr hMr hckk
          by_cases hc0 : ck = 0
          · subst hc0
            have hEO : Hid (readM bs = .ok r.m) := Lib.hid (by rw [HR3.out, if_pos rfl])
            go_wp2_with (first
              | (guard_target = wpList _ _ _ (Oper.mk _ (.load 28 _) _ _ _ _ :: _) _ _; refine wpList_load_row rfl 28 _ rfl (w.heap.size + 1) rfl 28 (Mr) (0, 0) _ (HATR.out) Try.underlying28 rfl (by rw [HSR.out]; kernel_rfl) ?_)
              | (go_at_call 21; refine HCK.out.mono ?_; rintro e w1 ⟨rfl, hb1⟩; have hx1 := HR.out.res.below hb1 HR.out.res.lt; have ha1 := HATR.out.below hb1 HATR.out.lt; have HB1 := Lib.hid hb1; have HW1 := Lib.hid (HR.out.below.trans (hb1.mono (by have := HR.out.size; omega))); clear hb1)
              | (guard_target = wpList _ _ _ (Oper.mk _ (.load 28 _) _ _ _ _ :: _) _ _; refine wpList_load_row rfl 28 _ rfl (w.heap.size + 1) rfl 28 (Mr) (0, 0) _ (ha1) Try.underlying28 rfl (by rw [HSR.out]; kernel_rfl) ?_)
              | (guard_target = wpList _ _ _ (Oper.mk _ (.store 28 _ _) _ _ _ _ :: _) _ _; refine wpList_store_arrW rfl 28 _ _ rfl (w.heap.size) (Mr) rfl rfl 28 _ (hx1) (by rw [HSR.out]; kernel_rfl) (by rw [HSR.out, HZS.out]) (HAR.out) ?_; intro W9 hS9 hz9 hb9 ho9))
            refine bodyPost_ret (results_cell_tmp (p := 2) (q := 3) rfl _ _ w.heap.size 28 _ _ rfl hS9 Try.underlying28 rfl (by rw [HSR.out]; kernel_rfl)) rfl ?_
            have hw9 := HW1.out.trans (hb9.mono (by omega))
            refine ⟨?_, hw9⟩
            unfold RefReadOut
            rw [hEO.out]
            refine ⟨r, d, i, l, rfl, HR.out.nn, by rw [HMR.out]; rfl, ?_⟩
            have h3 := (HR.out.rd.kept (W' := w1) fun a z ha hz => (HB1.out.cell (p := a) ha.2).trans hz).kept (W' := W9) fun a z ha hz => (World.cell?_of_block (ho9 a.block (by have := ha.1; omega))).trans hz
            exact h3.mono fun b hb => by rw [hz9]; exact Nat.lt_of_lt_of_le hb.2 HB1.out.size
          · have hc1 : ¬ (ck : Int) = 0 := by omega
            have hc2 : ((ck : Int) != 0) = true := by simpa using hc1
            have hE : Hid (readM bs = .error ck) := Lib.hid (by rw [HR3.out, if_neg hc0])
            clear hc0
            go_wp2_with (first
              | (guard_target = wpList _ _ _ (Oper.mk _ (.load 28 _) _ _ _ _ :: _) _ _; refine wpList_load_row rfl 28 _ rfl (w.heap.size + 1) rfl 28 (Mr) (0, 0) _ (HATR.out) Try.underlying28 rfl (by rw [HSR.out]; kernel_rfl) ?_)
              | (go_at_call 21; refine HCK.out.mono ?_; rintro e w1 ⟨rfl, hb1⟩; have hx1 := HR.out.res.below hb1 HR.out.res.lt; have ha1 := HATR.out.below hb1 HATR.out.lt; have HB1 := Lib.hid hb1; have HW1 := Lib.hid (HR.out.below.trans (hb1.mono (by have := HR.out.size; omega))); clear hb1)
              | (guard_target = wpList _ _ _ (Oper.mk _ (.build _ #[]) _ _ _ _ :: _) _ _; refine wpList_build rfl 28 _ rfl (by kernel_rfl) ?_; simp only [List.map_toArray, List.map_nil]; rw [HZB.out])
              | (guard_target = wpList _ _ _ (Oper.mk _ (.store 28 _ _) _ _ _ _ :: _) _ _; refine wpList_store_arrW rfl 28 _ _ rfl (w.heap.size) (Z) rfl rfl 28 _ (hx1) (by rw [HZS.out]; kernel_rfl) (by rw [HZS.out]) (HZA.out) ?_; intro W9 hS9 hz9 hb9 ho9))
            refine bodyPost_ret (results_cell_tmp (p := 2) (q := 3) rfl _ _ w.heap.size 28 _ _ rfl hS9 Try.underlying28 rfl (by rw [HZS.out]; kernel_rfl)) rfl ?_
            exact ⟨HERR.out ck _ hE.out, HW1.out.trans (hb9.mono (by omega))⟩
end Go.Proofs.Ytjdgcciemlfapaa
