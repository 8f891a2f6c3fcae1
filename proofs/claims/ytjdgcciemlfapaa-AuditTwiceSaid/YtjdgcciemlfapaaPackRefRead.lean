/-
  The reference's take, number, id: of any string, in whatever memory: the run at a place, the number, the sum.
-/
import Derived.Test.YtjdgcciemlfapaaPackReadMath
import Derived.Test.YtjdgcciemlfapaaPackStr
namespace Go.Proofs.Ytjdgcciemlfapaa
open Go Go.RowKit PackMath

theorem idx_str (bs : List UInt8) (k : Nat) (z : Int) (hz : z = (k : Int)) (hk : k < bs.length) (w : World) : (Instr.index 9 (.string ⟨bs.toArray⟩) (.int .i64 z)).run Try.prog w = .ok (bv (bs.getD k 0)) w := by
  subst hz
  rw [run_index_string w 9 _ .i64 _ Try.underlying9, dif_pos ⟨by omega, by rw [ba_len]; omega⟩]
  have e : (⟨bs.toArray⟩ : ByteArray)[(k : Int).toNat]'(by rw [ba_len]; omega) = bs.getD k 0 := by
    rw [List.getD_eq_getElem?_getD, List.getElem?_eq_getElem hk]
    rfl
  rw [e]
  rfl
theorem cut_str (bs : List UInt8) (i j : Nat) (zi zj : Int) (hi : zi = (i : Int)) (hj : zj = (j : Int)) (h1 : i ≤ j) (h2 : j ≤ bs.length) (w : World) : (Instr.sliceAt 9 (.string ⟨bs.toArray⟩) (some (.int .i64 zi)) (some (.int .i64 zj)) none).run Try.prog w = .ok (.string ⟨((bs.take j).drop i).toArray⟩) w := by
  subst hi; subst hj
  rw [run_sliceAt_string w 9 _ _ _ _ Try.underlying9, run_slice_string w 9 _ .i64 .i64 _ _ Try.underlying9 (by omega) (by omega) (by rw [ba_len]; omega)]
  congr 2
  apply ByteArray.ext
  simp [ByteArray.data_extract, List.extract_eq_take_drop, List.drop_take]
/-- What take hands back. -/
def TakeOut (bs : List UInt8) (k : Nat) (e : Ending) : Prop := match take3 (bs.drop k) with
  | none => e = .returned (.tuple #[.string ⟨#[]⟩, .int .i64 (k : Int), .bool false])
  | some (x, _) => e = .returned (.tuple #[.string ⟨x.toArray⟩, .int .i64 ((k + 3 + x.length : Nat) : Int), .bool true])
set_option maxRecDepth 100000 in
set_option maxHeartbeats 1000000 in
theorem refTake_any (bs : List UInt8) (k : Nat) (hk : k ≤ bs.length) (hm : bs.length ≤ 140737488351232) (w : World) :
    Calls Try.prog 26 #[.string ⟨bs.toArray⟩, .int .i64 (k : Int)] w fun e w' => TakeOut bs k e ∧ Below w.heap.size w w' := by
  have hI := fun j z hz hj => idx_str bs j z hz hj
  have hC := fun i j zi zj hi hj h1 h2 => cut_str bs i j zi zj hi hj h1 h2
  have hsz := ba_len bs
  obtain ⟨S, hS⟩ : ∃ S : ByteArray, ⟨bs.toArray⟩ = S := ⟨_, rfl⟩
  rw [hS] at hI hC hsz ⊢
  obtain ⟨n, hn⟩ : ∃ n, bs.length = n := ⟨_, rfl⟩
  rw [hn] at hk hm hsz hI hC
  clear hS
  by_cases h3 : n - k < 3
  · have hlt : (n : Int) - (k : Int) < 3 := by omega
    have HO : Hid (TakeOut bs k (.returned (.tuple #[.string ⟨#[]⟩, .int .i64 (k : Int), .bool false]))) := Lib.hid (by
      have hl : (bs.drop k).length < 3 := by rw [List.length_drop]; omega
      have e : take3 (bs.drop k) = none := by
        match hh : bs.drop k, hl with
        | [], _ => rfl
        | [a], _ => rfl
        | [a, b], _ => rfl
      unfold TakeOut
      rw [e])
    clear hI hC hn h3
    go_enter Try.func26, Try.ntmps26
    go_wp2
    go_ret3
    exact ⟨HO.out, Below.refl _ _⟩
  · have hlt : decide ((n : Int) - (k : Int) < 3) = false := decide_eq_false (by omega)
    obtain ⟨a, ha⟩ : ∃ a, bs.getD k 0 = a := ⟨_, rfl⟩
    obtain ⟨b, hb⟩ : ∃ a, bs.getD (k + 1) 0 = a := ⟨_, rfl⟩
    obtain ⟨c, hc⟩ : ∃ a, bs.getD (k + 2) 0 = a := ⟨_, rfl⟩
    have i0 := fun w' => hI k (k : Int) rfl (by omega) w'
    have i1 := fun w' => hI (k + 1) ((k : Int) + 1) (by omega) (by omega) w'
    have i2 := fun w' => hI (k + 2) ((k : Int) + 2) (by omega) (by omega) w'
    rw [ha] at i0
    rw [hb] at i1
    rw [hc] at i2
    unfold bv at i0 i1 i2
    have l0 := a.toNat_lt
    have l1 := b.toNat_lt
    have l2 := c.toNat_lt
    obtain ⟨m, hmm⟩ : ∃ m, a.toNat * 65536 + b.toNat * 256 + c.toNat = m := ⟨_, rfl⟩
    have e3 : bs.drop k = a :: b :: c :: bs.drop (k + 3) := by
      rw [List.drop_eq_getElem_cons (by omega), List.drop_eq_getElem_cons (by omega), List.drop_eq_getElem_cons (by omega)]
      rw [← ha, ← hb, ← hc, List.getD_eq_getElem?_getD, List.getD_eq_getElem?_getD, List.getD_eq_getElem?_getD, List.getElem?_eq_getElem (by omega), List.getElem?_eq_getElem (by omega), List.getElem?_eq_getElem (by omega)]
      rfl
    have HT : Hid (take3 (bs.drop k) = if m ≤ n - (k + 3) then some ((bs.drop (k + 3)).take m, (bs.drop (k + 3)).drop m) else none) := Lib.hid (by
      rw [e3]
      simp only [take3, hmm, List.length_drop, hn])
    have hsum : (a.toNat : Int) * 65536 + (b.toNat : Int) * 256 + (c.toNat : Int) = (m : Int) := by omega
    have hmb : (m : Int) < 16777216 := by omega
    by_cases hle : m ≤ n - (k + 3)
    · have hgt : decide ((n : Int) - (k : Int) - 3 < (m : Int)) = false := decide_eq_false (by omega)
      have hcut := fun w' => hC (k + 3) (k + 3 + m) ((k : Int) + 3) ((k : Int) + 3 + (m : Int)) (by omega) (by omega) (by omega) (by omega) w'
      have HO : Hid (TakeOut bs k (.returned (.tuple #[.string ⟨((bs.take (k + 3 + m)).drop (k + 3)).toArray⟩, .int .i64 ((k : Int) + 3 + (m : Int)), .bool true]))) := Lib.hid (by
        unfold TakeOut
        rw [HT.out, if_pos hle]
        have e5 : (bs.take (k + 3 + m)).drop (k + 3) = (bs.drop (k + 3)).take m := by rw [List.drop_take]; congr 1; omega
        have e6 : ((bs.drop (k + 3)).take m).length = m := by rw [List.length_take, List.length_drop]; omega
        rw [e5]
        simp only [e6]
        rfl)
      obtain ⟨X, hX⟩ : ∃ X, (bs.take (k + 3 + m)).drop (k + 3) = X := ⟨_, rfl⟩
      rw [hX] at hcut HO
      clear hI hC hn h3 ha hb hc hmm e3 hle hX
      go_enter Try.func26, Try.ntmps26
      go_wp2
      go_quiet (fail)
      have HBD : Hid (Below w.heap.size w (w.drewN nq)) := Lib.hid (below_drewN (Below.refl _ _) nq)
      generalize w.drewN nq = W at *
      go_wp2
      go_ret3
      exact ⟨HO.out, HBD.out⟩
    · have hgt : (n : Int) - (k : Int) - 3 < (m : Int) := by omega
      have HO : Hid (TakeOut bs k (.returned (.tuple #[.string ⟨#[]⟩, .int .i64 (k : Int), .bool false]))) := Lib.hid (by
        unfold TakeOut
        rw [HT.out, if_neg hle])
      clear hI hC hn h3 ha hb hc hmm e3 hle
      go_enter Try.func26, Try.ntmps26
      go_wp2
      go_quiet (fail)
      have HBD : Hid (Below w.heap.size w (w.drewN nq)) := Lib.hid (below_drewN (Below.refl _ _) nq)
      generalize w.drewN nq = W at *
      go_wp2
      go_ret3
      exact ⟨HO.out, HBD.out⟩
/-- What number hands back. -/
def RefNumOut (bs : List UInt8) (e : Ending) : Prop := match number bs with
  | none => ∃ z : Int, e = .returned (.tuple #[.int .i64 z, .bool false])
  | some n => e = .returned (.tuple #[.int .i64 (n : Int), .bool true])
set_option maxRecDepth 100000 in
set_option maxHeartbeats 1000000 in
theorem refNumber_any (bs : List UInt8) (hne : bs ≠ []) (hm : bs.length ≤ 140737488351232) (w : World) :
    Calls Try.prog 41 #[.string ⟨bs.toArray⟩] w fun e w' => RefNumOut bs e ∧ Below w.heap.size w w' := by
  obtain ⟨x, s, rfl⟩ : ∃ x s, bs = x :: s := by
    cases bs with
    | nil => exact absurd rfl hne
    | cons x s => exact ⟨x, s, rfl⟩
  clear hne
  have hI := fun j z hz hj => idx_str (x :: s) j z hz hj
  have hsz := ba_len (x :: s)
  have i0 := fun w' => hI 0 0 rfl (by simp) w'
  rw [List.getD_cons_zero] at i0
  unfold bv at i0
  have hnum : number (x :: s) = if x = 0 ∨ 6 < (x :: s).length ∨ 1099511627776 < num (x :: s) then none else some (num (x :: s)) := rfl
  obtain ⟨bs, hbs⟩ : ∃ bs, x :: s = bs := ⟨_, rfl⟩
  have hn1 : 0 < bs.length := by rw [← hbs]; simp
  rw [hbs] at hI hsz i0 hnum hm ⊢
  obtain ⟨S, hS⟩ : ∃ S : ByteArray, ⟨bs.toArray⟩ = S := ⟨_, rfl⟩
  rw [hS] at hI hsz i0 ⊢
  obtain ⟨n, hn⟩ : ∃ n, bs.length = n := ⟨_, rfl⟩
  rw [hn] at hI hsz hnum hm hn1
  have HN := Lib.hid hn
  have HNU := Lib.hid hnum
  have HI := Lib.hid hI
  have hx256 := x.toNat_lt
  have hem : S.toList.isEmpty = false := by
    rw [← hS, ByteArray.toList_eq]
    cases bs with
    | nil => simp at hn; omega
    | cons y t => rfl
  clear hbs hn hnum hS hI
  by_cases h0 : x = 0
  · have hz : ((x.toNat : Int) == 0) = true := by rw [h0]; rfl
    have HO : Hid (∀ z : Int, RefNumOut bs (.returned (.tuple #[.int .i64 z, .bool false]))) := Lib.hid fun z => by unfold RefNumOut; rw [HNU.out, if_pos (.inl h0)]; exact ⟨z, rfl⟩
    clear h0
    go_enter Try.func41, Try.ntmps41
    go_wp2
    go_ret2
    exact ⟨HO.out _, Below.refl _ _⟩
  · have hz : ((x.toNat : Int) == 0) = false := by
      have : x.toNat ≠ 0 := fun e => h0 (UInt8.toNat_inj.1 (by simpa using e))
      simp; omega
    by_cases h6 : 6 < n
    · have d6 : (6 : Int) < (n : Int) := by omega
      have HO : Hid (∀ z : Int, RefNumOut bs (.returned (.tuple #[.int .i64 z, .bool false]))) := Lib.hid fun z => by unfold RefNumOut; rw [HNU.out, if_pos (.inr (.inl h6))]; exact ⟨z, rfl⟩
      clear h0
      go_enter Try.func41, Try.ntmps41
      go_wp2
      go_ret2
      exact ⟨HO.out _, Below.refl _ _⟩
    · have d6 : decide ((6 : Int) < (n : Int)) = false := decide_eq_false (by omega)
      have H0 := Lib.hid h0
      clear h0
      go_enter Try.func41, Try.ntmps41
      go_wp2
      clear i0 hz d6 hem
      go_loop [4, 5] (fun t i => ∃ k : Nat, k ≤ n ∧ i = .int .i64 (k : Int) ∧ t = .int .i64 ((num (bs.take k) : Nat) : Int)) (fun _ i => n - (intOf i).toNat)
      case atStart => exact ⟨0, by omega, rfl, rfl⟩
      case round =>
        obtain ⟨k, hk, rfl, rfl⟩ := hrel
        by_cases hlt : k < n
        · have hck := fun w' => HI.out k (k : Int) rfl hlt w'
          have HT := Lib.hid (num_take bs k (by rw [HN.out]; exact hlt))
          have hle := num_le (bs.take k) 5 (by rw [List.length_take]; omega)
          obtain ⟨y, hy⟩ : ∃ y, bs.getD k 0 = y := ⟨_, rfl⟩
          rw [hy] at hck HT
          obtain ⟨t, ht⟩ : ∃ t, num (bs.take k) = t := ⟨_, rfl⟩
          rw [ht] at hle HT ⊢
          unfold bv at hck
          have hy256 := y.toNat_lt
          have hkl : (k : Int) < (n : Int) := by omega
          have htb : (t : Int) < 1099511627776 := by omega
          have hyb : (y.toNat : Int) < 256 := by omega
          clear ht hy
          go_wp2
          go_round
          case rel => exact ⟨k + 1, by omega, by go_num, by rw [HT.out]; go_num⟩
          case measure => simp [intOf]; omega
        · obtain rfl : k = n := by omega
          have e : bs.take k = bs := by rw [← HN.out]; simp
          rw [e]
          have hle := num_le bs 6 (by rw [HN.out]; omega)
          obtain ⟨t, ht⟩ : ∃ t, num bs = t := ⟨_, rfl⟩
          have HTT := Lib.hid ht
          rw [ht] at hle ⊢
          clear e ht
          by_cases hbig : 1099511627776 < t
          · have HO : Hid (∀ z : Int, RefNumOut bs (.returned (.tuple #[.int .i64 z, .bool false]))) := Lib.hid fun z => by unfold RefNumOut; rw [HNU.out, if_pos (.inr (.inr (by rw [HTT.out]; exact hbig)))]; exact ⟨z, rfl⟩
            have dl : decide ((t : Int) ≤ 1099511627776) = false := decide_eq_false (by omega)
            go_wp2
            go_ret2
            exact ⟨HO.out _, Below.refl _ _⟩
          · have HO : Hid (RefNumOut bs (.returned (.tuple #[.int .i64 (t : Int), .bool true]))) := Lib.hid (by unfold RefNumOut; rw [HNU.out, if_neg (by rw [HTT.out]; exact fun h => by rcases h with h | h | h; exact H0.out h; omega; omega), HTT.out])
            have dl : (t : Int) ≤ 1099511627776 := by omega
            go_wp2
            go_ret2
            exact ⟨HO.out, Below.refl _ _⟩
set_option maxRecDepth 100000 in
set_option maxHeartbeats 1000000 in
theorem refId_any (bs : List UInt8) (k : Nat) (hk : k + 32 ≤ bs.length) (hm : bs.length ≤ 140737488351232) (w : World) :
    Calls Try.prog 42 #[.string ⟨bs.toArray⟩, .int .i64 (k : Int)] w fun e w' => e = .returned (.agg (arr 32 fun i => bv (bs.getD (k + i) 0))) ∧ Below w.heap.size w w' := by
  have hz := built_zero
  have hI := fun j z hz hj => idx_str bs j z hz hj
  obtain ⟨F, hF⟩ : ∃ F : Nat → UInt8, (fun i => bs.getD (k + i) 0) = F := ⟨_, rfl⟩
  have hFi : ∀ i, bs.getD (k + i) 0 = F i := fun i => by rw [← hF]
  have hres : (arr 32 fun i => bv (bs.getD (k + i) 0)) = arr 32 fun i => bv (F i) := arr_congr fun i _ => by rw [hFi]
  rw [hres]
  obtain ⟨S, hS⟩ : ∃ S : ByteArray, ⟨bs.toArray⟩ = S := ⟨_, rfl⟩
  rw [hS] at hI ⊢
  obtain ⟨n, hn⟩ : ∃ n, bs.length = n := ⟨_, rfl⟩
  rw [hn] at hk hm hI
  have HI := Lib.hid hI
  have HFI := Lib.hid hFi
  have hkb : (k : Int) ≤ 140737488351232 := by omega
  have HK := Lib.hid hk
  clear hI hS hn hres hF hFi hk
  go_enter Try.func42, Try.ntmps42
  go_wp2_with (first
    | (guard_target = wpList _ _ _ (Oper.mk _ (.build _ _) _ _ _ _ :: _) _ _; refine wpList_build rfl 23 #[] rfl (by kernel_rfl) ?_; simp only [List.map_toArray, List.map_nil]; rw [hz])
    | (guard_target = wpList _ _ _ _ _ _; refine wpList_store_arrW rfl 23 _ _ rfl (w.heap.size + 1) (arr 32 fun _ => bv 0) rfl rfl 23 _ (Blk.newAt _ _ (by simp) rfl) (by rw [arr_size]; kernel_rfl) (by rw [arr_size]; rfl) (arr_all_bv _ _) ?_; intro W2 hS2 hz2 hb2 ho2; have hR2 : Blk W2 w.heap.size 23 (arr 32 fun _ => bv 0) := (by unfold Blk; rw [ho2 _ (by omega)]; exact ((Blk.new _ _ _).alloc _).same (by kernel_rfl)); have hw2 : Below w.heap.size w W2 := (((Below.refl _ w).alloc (Nat.le_refl _) _).alloc (by simp) _).trans (hb2.mono (by omega)); have HW2 := Lib.hid (And.intro hS2 (And.intro hR2 hw2)); clear hz2 hb2 ho2 hS2 hR2 hw2))
  go_loopw [6] (fun i wr => ∃ j : Nat, j ≤ 32 ∧ i = .int .i64 (j : Int) ∧ Blk wr (w.heap.size + 1) 23 (upto 32 j (fun i => bv (F i)) (bv 0)) ∧ Blk wr w.heap.size 23 (arr 32 fun _ => bv 0) ∧ Below w.heap.size w wr) (fun i _ => 32 - (intOf i).toNat)
  case atStart => exact ⟨0, by omega, rfl, HW2.out.1, HW2.out.2.1, HW2.out.2.2⟩
  case round =>
    clear HW2
    obtain ⟨j, hj, rfl, hB, hR, hb⟩ := hrel
    have HH := Lib.hid (And.intro hB (And.intro hR hb))
    by_cases hlt : j < 32
    · have hck := fun w' => HI.out (k + j) ((k : Int) + (j : Int)) (by omega) (by have := HK.out; omega) w'
      rw [HFI.out] at hck
      have c1 : wr.cell? ⟨w.heap.size + 1, j, none⟩ = some (bv 0) := (hB.cell j).trans (by rw [upto_get_any _ _ _ _ _ hlt, if_neg (by omega)])
      have fz := hB.frozen j
      have hjl : (j : Int) < 32 := by omega
      unfold bv at hck c1
      clear hB hR hb
      go_wp2
      go_roundw
      case rel =>
        obtain ⟨hB, hR, hb⟩ := HH.out
        exact ⟨j + 1, by omega, by go_num, (hB.store j _).same (upto_set 32 j (fun i => bv (F i)) (bv 0) hlt), hR.far (by show w.heap.size ≠ w.heap.size + 1; omega) _, hb.setCell (show w.heap.size ≤ w.heap.size + 1 by omega) _⟩
      case measure => simp [intOf]; omega
    · obtain rfl : j = 32 := by omega
      rw [upto_full] at hB
      clear HH
      go_wp2_with (first
        | (guard_target = wpList _ _ _ _ _ _; refine wpList_load_arr rfl 23 _ rfl (w.heap.size + 1) rfl 23 _ _ hB Try.underlying23 rfl (by rw [arr_size]; kernel_rfl) ?_)
        | (guard_target = wpList _ _ _ _ _ _; refine wpList_store_arrW rfl 23 _ _ rfl w.heap.size (arr 32 fun i => bv (F i)) rfl rfl 23 _ hR (by rw [arr_size]; kernel_rfl) (by simp only [arr_size]) (arr_all_bv _ _) ?_; intro W4 hS4 hz4 hb4 ho4))
      exact bodyPost_ret (results_cell_row (p := 4) (ty := 23) rfl _ _ w.heap.size 23 _ (0, 0) _ rfl hS4 Try.underlying23 rfl (by rw [arr_size]; kernel_rfl)) rfl ⟨rfl, hb.trans hb4⟩
end Go.Proofs.Ytjdgcciemlfapaa
