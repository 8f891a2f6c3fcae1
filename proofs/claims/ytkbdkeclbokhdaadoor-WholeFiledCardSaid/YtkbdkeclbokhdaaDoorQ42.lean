/-
  pack.readNumber, pack.readID: for all bytes, in whatever memory: the number, the ID, or that it is none.
  pack.readID: for all bytes, in whatever memory: the ID, or that it is none.
-/
import Derived.Test.YtkbdkeclbokhdaaDoorPackCut
import Derived.Deep.MidRow
import Derived.Test.YtkbdkeclbokhdaaDoorQ12
namespace Go.Proofs.YtkbdkeclbokhdaaDoor
open Go Go.RowKit PackMath

theorem num_le (s : List UInt8) (k : Nat) (h : s.length ≤ k) : num s < 256 ^ k := by
  induction k generalizing s with
  | zero => obtain rfl := List.eq_nil_of_length_eq_zero (Nat.le_zero.1 h); show num [] < 1; decide
  | succ k ih =>
    rcases List.eq_nil_or_concat s with rfl | ⟨t, d, rfl⟩
    · exact Nat.lt_of_lt_of_le (by show num [] < 1; decide) (Nat.pow_pos (by omega))
    · rw [List.concat_eq_append] at h ⊢
      rw [num_snoc, Nat.pow_succ]
      have := ih t (by rw [List.length_append] at h; simp at h; omega)
      have := d.toNat_lt
      omega
theorem num_take (s : List UInt8) (k : Nat) (h : k < s.length) : num (s.take (k + 1)) = num (s.take k) * 256 + (s.getD k 0).toNat := by
  rw [List.take_succ_eq_append_getElem h, num_snoc, List.getD_eq_getElem?_getD, List.getElem?_eq_getElem h]
  rfl
/-- What readNumber hands back. -/
def NumOut (bs : List UInt8) (e : Ending) : Prop := e = match number bs with
  | none => .returned (.tuple #[.int .i64 0, .int .i64 23])
  | some n => .returned (.tuple #[.int .i64 (n : Int), .int .i64 0])
set_option maxRecDepth 100000 in
set_option maxHeartbeats 1000000 in
theorem readNumber_any (A : Option Addr) (c : Nat) (bs : List UInt8) (hne : bs ≠ []) (ok : Nat → Prop) (w : World) (hr : RdB w ok (.slice A bs.length c) bs) :
    Calls Tryd.prog 76 #[.slice A bs.length c] w fun e w' => NumOut bs e ∧ w' = w := by
  obtain ⟨x, s, rfl⟩ : ∃ x s, bs = x :: s := by
    cases bs with
    | nil => exact absurd rfl hne
    | cons x s => exact ⟨x, s, rfl⟩
  clear hne
  obtain ⟨ad, rfl, c0⟩ := hr.getc (j := 0) (by simp)
  have hcell : Hid (∀ j, j < (x :: s).length → w.cell? (ad.add j) = some (bv ((x :: s).getD j 0))) := Lib.hid fun j hj => by
    obtain ⟨_, e1, h⟩ := hr.getc hj
    injection e1 with e1
    rw [e1]; exact h
  have hnl : (x :: s).length ≤ 140737488351232 := by
    obtain ⟨A', c', hv, h1, h2, h3⟩ := hr
    exact h2
  rw [show ad.add 0 = ad by simp [Addr.add], List.getD_cons_zero] at c0
  unfold bv at c0
  have hnum : number (x :: s) = if x = 0 ∨ 6 < (x :: s).length ∨ 1099511627776 < num (x :: s) then none else some (num (x :: s)) := rfl
  obtain ⟨bs, hbs⟩ : ∃ bs, x :: s = bs := ⟨_, rfl⟩
  rw [hbs] at hcell hnl hnum ⊢
  have hn1 : 0 < bs.length := by rw [← hbs]; simp
  obtain ⟨n, hn⟩ : ∃ n, bs.length = n := ⟨_, rfl⟩
  rw [hn] at hcell hnl hnum hn1 ⊢
  have HN := Lib.hid hn
  have HNU := Lib.hid hnum
  have hx256 := x.toNat_lt
  clear hr hbs hn hnum
  by_cases h0 : x = 0
  · have hz : ((x.toNat : Int) == 0) = true := by rw [h0]; rfl
    have HO : Hid (number bs = none) := Lib.hid (by rw [HNU.out, if_pos (.inl h0)])
    go_enter Tryd.func76, Tryd.ntmps76
    go_wp2
    go_ret2
    exact ⟨by unfold NumOut; rw [HO.out]; rfl, rfl⟩
  · have hz : ((x.toNat : Int) == 0) = false := by
      have : x.toNat ≠ 0 := fun e => h0 (UInt8.toNat_inj.1 (by simpa using e))
      simp; omega
    by_cases h6 : 6 < n
    · have d6 : (6 : Int) < (n : Int) := by omega
      have HO : Hid (number bs = none) := Lib.hid (by rw [HNU.out, if_pos (.inr (.inl h6))])
      clear h0
      go_enter Tryd.func76, Tryd.ntmps76
      go_wp2
      go_ret2
      exact ⟨by unfold NumOut; rw [HO.out]; rfl, rfl⟩
    · have d6 : decide ((6 : Int) < (n : Int)) = false := decide_eq_false (by omega)
      have H0 := Lib.hid h0
      clear h0
      go_enter Tryd.func76, Tryd.ntmps76
      go_wp2
      clear c0 hz d6
      go_loop [4, 18] (fun t i => ∃ k : Nat, k ≤ n ∧ i = .int .i64 (k : Int) ∧ t = .int .i64 ((num (bs.take k) : Nat) : Int)) (fun _ i => n - (intOf i).toNat)
      case atStart => exact ⟨0, by omega, rfl, rfl⟩
      case round =>
        obtain ⟨k, hk, rfl, rfl⟩ := hrel
        by_cases hlt : k < n
        · have hck := hcell.out k hlt
          have HT := Lib.hid (num_take bs k (by rw [HN.out]; exact hlt))
          have hle := num_le (bs.take k) 5 (by rw [List.length_take]; omega)
          obtain ⟨y, hy⟩ : ∃ y, bs.getD k 0 = y := ⟨_, rfl⟩
          rw [hy] at hck HT
          obtain ⟨t, ht⟩ : ∃ t, num (bs.take k) = t := ⟨_, rfl⟩
          rw [ht] at hle HT ⊢
          unfold bv at hck
          have hy256 := y.toNat_lt
          have hkl : (k : Int) < (n : Int) := by omega
          have w1 : IntKind.i64.wrap (y.toNat : Int) = (y.toNat : Int) := by rw [IntKind.wrap_i64]; omega
          have w2 : IntKind.i64.wrap ((t : Int) * 256) = (t : Int) * 256 := by rw [IntKind.wrap_i64]; omega
          have b1 : bits .or .i64 ((t : Int) * 256) (y.toNat : Int) = ((t * 256 + y.toNat : Nat) : Int) := by
            have := or_join 8 (t * 256) y.toNat (by omega) (by omega) (by omega) (by omega)
            rw [← this, Int.natCast_mul]
            rfl
          obtain ⟨z, hz⟩ : ∃ z, t * 256 + y.toNat = z := ⟨_, rfl⟩
          rw [hz] at b1
          have HZ := Lib.hid hz
          clear hz ht hy
          go_wp2
          go_round
          case rel => exact ⟨k + 1, by omega, by go_num, by rw [HT.out, HZ.out]⟩
          case measure => simp [intOf]; omega
        · obtain rfl : k = n := by omega
          have e : bs.take k = bs := by rw [← HN.out]; simp
          rw [e]
          have hle := num_le bs 6 (by rw [HN.out]; omega)
          obtain ⟨t, ht⟩ : ∃ t, num bs = t := ⟨_, rfl⟩
          have HTT := Lib.hid ht
          rw [ht] at hle ⊢
          clear e ht
          by_cases hbig : 1099511627776 < t
          · have HO : Hid (number bs = none) := Lib.hid (by rw [HNU.out, if_pos (.inr (.inr (by rw [HTT.out]; exact hbig)))])
            have dl : (1099511627776 : Int) < (t : Int) := by omega
            go_wp2
            go_ret2
            exact ⟨by unfold NumOut; rw [HO.out]; rfl, rfl⟩
          · have HO : Hid (number bs = some t) := Lib.hid (by rw [HNU.out, if_neg (by rw [HTT.out]; exact fun h => by rcases h with h | h | h; exact H0.out h; omega; omega), HTT.out])
            have dl : decide ((1099511627776 : Int) < (t : Int)) = false := decide_eq_false (by omega)
            go_wp2
            go_ret2
            exact ⟨by unfold NumOut; rw [HO.out]; rfl, rfl⟩
end Go.Proofs.YtkbdkeclbokhdaaDoor
namespace Go.Proofs.YtkbdkeclbokhdaaDoor
open Go Go.RowKit PackMath

/-- What readID hands back. -/
def IDOut (bs : List UInt8) (e : Ending) : Prop := if bs.length ≠ 32 ∨ bs = zid then e = .returned (.tuple #[.agg (arr 32 fun _ => bv 0), .int .i64 23]) else e = .returned (.tuple #[.agg (arr 32 fun i => bv (bs.getD i 0)), .int .i64 0])
set_option maxRecDepth 100000 in
set_option maxHeartbeats 2000000 in
theorem readID_any (A : Option Addr) (c : Nat) (bs : List UInt8) (w : World) (hr : RdB w (fun b => b < w.heap.size) (.slice A bs.length c) bs) :
    Calls Tryd.prog 77 #[.slice A bs.length c] w fun e w' => IDOut bs e ∧ Below w.heap.size w w' := by
  have hz := built_zero
  have hb0 : Below w.heap.size w ((w.alloc (.cells (arr 32 fun _ => bv 0) 37)).alloc (.cells (arr 32 fun _ => bv 0) 37)) := ((Below.refl _ _).alloc (Nat.le_refl _) _).alloc (by simp) _
  have hB0 : Blk ((w.alloc (.cells (arr 32 fun _ => bv 0) 37)).alloc (.cells (arr 32 fun _ => bv 0) 37)) w.heap.size 37 (arr 32 fun _ => bv 0) := (Blk.new _ _ _).alloc _
  have hB1 : Blk ((w.alloc (.cells (arr 32 fun _ => bv 0) 37)).alloc (.cells (arr 32 fun _ => bv 0) 37)) (w.heap.size + 1) 37 (arr 32 fun _ => bv 0) := Blk.newAt _ _ (by simp) rfl
  obtain ⟨n, hn⟩ : ∃ n, bs.length = n := ⟨_, rfl⟩
  rw [hn] at hr ⊢
  have HN := Lib.hid hn
  have hnl : n ≤ 140737488351232 := by
    obtain ⟨A', c', hv, h1, h2, h3⟩ := hr
    rw [hn] at h2
    exact h2
  have HR := Lib.hid hr
  have HB := Lib.hid hb0
  have HB0 := Lib.hid hB0
  have HB1 := Lib.hid hB1
  clear hn hr hb0 hB0 hB1
  have hd32 : Hid (n ≠ 32 ∨ n = 32) := Lib.hid (by omega)
  by_cases h32 : n = 32
  · subst h32
    obtain ⟨F, hF⟩ : ∃ F : Nat → UInt8, (fun i => bs.getD i 0) = F := ⟨_, rfl⟩
    have hFi : ∀ i, bs.getD i 0 = F i := fun i => by rw [← hF]
    have heq := fun w' => eql_id F (fun _ => 0) w'
    rw [id32_zero, ← hF, id32_of bs HN.out, hF] at heq
    have HFI := Lib.hid hFi
    have hsrc : Hid (∀ W, Below w.heap.size w W → (0 < 32 → ∃ ad, A = some ad ∧ ∀ j, j < 32 → W.cell? (ad.add j) = some ((fun j => bv (F j)) j))) := Lib.hid fun W hb _ => by
      obtain ⟨A', c', hv, h1, h2, h3⟩ := HR.out.kept (W' := W) fun a x ha h => (hb.cell (p := a) ha).trans h
      injection hv with e1 e2 e3
      subst e1
      obtain ⟨ad, e, _, hc⟩ := h3 (by rw [HN.out]; omega)
      exact ⟨ad, e, fun j hj => by rw [hc j (by rw [HN.out]; exact hj), hFi]⟩
    have hcopy : Hid (∀ i, i < 32 → (if 0 ≤ i ∧ i < 0 + 32 then (fun j => bv (F j)) (i - 0) else (fun _ => bv 0) i) = (fun i => bv (F i)) i) := Lib.hid fun i hi => by rw [if_pos (by omega), Nat.sub_zero]
    clear hF hFi
    by_cases hzb : bs = zid
    · have hb : (bs == zid) = true := by simpa using hzb
      have hzf : Hid ((arr 32 fun i => bv (F i)) = arr 32 fun _ => bv 0) := Lib.hid (arr_congr fun i hi => by rw [← HFI.out i, hzb, zid, List.getD_eq_getElem?_getD, List.getElem?_replicate, if_pos hi]; rfl)
      have HO : Hid (∀ e, e = .returned (.tuple #[.agg (arr 32 fun _ => bv 0), .int .i64 23]) → IDOut bs e) := Lib.hid fun e he => by unfold IDOut; rw [if_pos (.inr hzb)]; exact he
      rw [hb] at heq
      clear hd32 hzb hb
      go_enter Tryd.func77, Tryd.ntmps77
      go_wp2_with (first
        | (refine wpList_build rfl 37 #[] rfl (by kernel_rfl) ?_; simp only [List.map_toArray, List.map_nil]; rw [hz])
        | (refine wpList_store_arrW rfl 37 _ _ rfl (w.heap.size + 1) (arr 32 fun _ => bv 0) rfl rfl 37 _ (Blk.newAt _ _ (by simp) rfl) (by rw [arr_size]; kernel_rfl) (by rw [arr_size]; rfl) (arr_all_bv _ _) ?_; intro W2 hS2 hz2 hb2 ho2; have hR2 : Blk W2 w.heap.size 37 (arr 32 fun _ => bv 0) := (by unfold Blk; rw [ho2 _ (by omega)]; exact ((Blk.new _ _ _).alloc _).same (by kernel_rfl)); have hw2 : Below w.heap.size w W2 := (((Below.refl _ w).alloc (Nat.le_refl _) _).alloc (by simp) _).trans (hb2.mono (by omega)); clear hz2 hb2 ho2)
        | (refine wpList_copy_arrW rfl _ _ 42 42 rfl 5 Tryd.underlying42 (by kernel_rfl) (w.heap.size + 1) 0 32 32 rfl A 32 c rfl 32 32 (fun _ => bv 0) 37 hS2 rfl (fun j => bv (F j)) (hsrc.out W2 hw2) (by omega) (fun _ _ => rfl) (fun i => bv (F i)) hcopy.out ?_; intro W3 hS3 hz3 hb3 ho3; have hR3 : Blk W3 w.heap.size 37 (arr 32 fun _ => bv 0) := (ho3 _ (by omega)).trans hR2; have hw3 := hw2.trans (hb3.mono (Nat.le_succ _)); clear hz3 hb3 ho3 hS2 hR2 hw2)
        | (refine wpList_load_arr rfl 37 _ rfl (w.heap.size + 1) rfl 37 _ _ hS3 Tryd.underlying37 rfl (by rw [arr_size]; kernel_rfl) ?_)
        | (refine wpList_store_arrW rfl 37 _ _ rfl w.heap.size (arr 32 fun i => bv (F i)) rfl rfl 37 _ hR3 (by rw [arr_size]; kernel_rfl) (by simp only [arr_size]) (arr_all_bv _ _) ?_; intro W4 hS4 hz4 hb4 ho4))
      refine bodyPost_ret (results_cell_tmp (p := 2) (q := 3) rfl _ _ w.heap.size 37 _ _ rfl hS4 Tryd.underlying37 rfl (by rw [arr_size]; kernel_rfl)) rfl ?_
      exact ⟨HO.out _ (by rw [hzf.out]; rfl), hw3.trans (hb4.mono (Nat.le_refl _))⟩
    · have hb : (bs == zid) = false := by simpa using hzb
      have HO : Hid (∀ e, e = .returned (.tuple #[.agg (arr 32 fun i => bv (F i)), .int .i64 0]) → IDOut bs e) := Lib.hid fun e he => by unfold IDOut; rw [if_neg (by rw [HN.out]; exact fun h => h.elim (fun h => h rfl) hzb), he, arr_congr (f := fun i => bv (F i)) fun i _ => by rw [← HFI.out i]]
      rw [hb] at heq
      clear hd32 hzb hb
      go_enter Tryd.func77, Tryd.ntmps77
      go_wp2_with (first
        | (refine wpList_build rfl 37 #[] rfl (by kernel_rfl) ?_; simp only [List.map_toArray, List.map_nil]; rw [hz])
        | (refine wpList_store_arrW rfl 37 _ _ rfl (w.heap.size + 1) (arr 32 fun _ => bv 0) rfl rfl 37 _ (Blk.newAt _ _ (by simp) rfl) (by rw [arr_size]; kernel_rfl) (by rw [arr_size]; rfl) (arr_all_bv _ _) ?_; intro W2 hS2 hz2 hb2 ho2; have hR2 : Blk W2 w.heap.size 37 (arr 32 fun _ => bv 0) := (by unfold Blk; rw [ho2 _ (by omega)]; exact ((Blk.new _ _ _).alloc _).same (by kernel_rfl)); have hw2 : Below w.heap.size w W2 := (((Below.refl _ w).alloc (Nat.le_refl _) _).alloc (by simp) _).trans (hb2.mono (by omega)); clear hz2 hb2 ho2)
        | (refine wpList_copy_arrW rfl _ _ 42 42 rfl 5 Tryd.underlying42 (by kernel_rfl) (w.heap.size + 1) 0 32 32 rfl A 32 c rfl 32 32 (fun _ => bv 0) 37 hS2 rfl (fun j => bv (F j)) (hsrc.out W2 hw2) (by omega) (fun _ _ => rfl) (fun i => bv (F i)) hcopy.out ?_; intro W3 hS3 hz3 hb3 ho3; have hR3 : Blk W3 w.heap.size 37 (arr 32 fun _ => bv 0) := (ho3 _ (by omega)).trans hR2; have hw3 := hw2.trans (hb3.mono (Nat.le_succ _)); clear hz3 hb3 ho3 hS2 hR2 hw2)
        | (refine wpList_load_arr rfl 37 _ rfl (w.heap.size + 1) rfl 37 _ _ hS3 Tryd.underlying37 rfl (by rw [arr_size]; kernel_rfl) ?_)
        | (refine wpList_store_arrW rfl 37 _ _ rfl w.heap.size (arr 32 fun i => bv (F i)) rfl rfl 37 _ hR3 (by rw [arr_size]; kernel_rfl) (by simp only [arr_size]) (arr_all_bv _ _) ?_; intro W4 hS4 hz4 hb4 ho4))
      refine bodyPost_ret (results_cell_tmp (p := 2) (q := 3) rfl _ _ w.heap.size 37 _ _ rfl hS4 Tryd.underlying37 rfl (by rw [arr_size]; kernel_rfl)) rfl ?_
      exact ⟨HO.out _ rfl, hw3.trans (hb4.mono (Nat.le_refl _))⟩
  · have HO : Hid (∀ e, e = .returned (.tuple #[.agg (arr 32 fun _ => bv 0), .int .i64 23]) → IDOut bs e) := Lib.hid fun e he => by unfold IDOut; rw [if_pos (.inl (by rw [HN.out]; exact h32))]; exact he
    have dn : ((n : Int) != 32) = true := by simp; omega
    have dn2 : ((n : Int) == 32) = false := by simp; omega
    clear hd32 h32
    go_enter Tryd.func77, Tryd.ntmps77
    go_wp2_with (first
      | (refine wpList_build rfl 37 #[] rfl (by kernel_rfl) ?_; simp only [List.map_toArray, List.map_nil]; rw [hz])
      | (refine wpList_store_arrW rfl 37 _ _ rfl (w.heap.size + 1) (arr 32 fun _ => bv 0) rfl rfl 37 _ (Blk.newAt _ _ (by simp) rfl) (by rw [arr_size]; kernel_rfl) (by rw [arr_size]; rfl) (arr_all_bv _ _) ?_; intro W2 hS2 hz2 hb2 ho2; have hR2 : Blk W2 w.heap.size 37 (arr 32 fun _ => bv 0) := (by unfold Blk; rw [ho2 _ (by omega)]; exact ((Blk.new _ _ _).alloc _).same (by kernel_rfl)); have hw2 : Below w.heap.size w W2 := (((Below.refl _ w).alloc (Nat.le_refl _) _).alloc (by simp) _).trans (hb2.mono (by omega)); clear hz2 hb2 ho2)
      | (refine wpList_load_arr rfl 37 _ rfl (w.heap.size + 1) rfl 37 _ _ hS2 Tryd.underlying37 rfl (by rw [arr_size]; kernel_rfl) ?_)
      | (refine wpList_store_arrW rfl 37 _ _ rfl w.heap.size (arr 32 fun _ => bv 0) rfl rfl 37 _ hR2 (by rw [arr_size]; kernel_rfl) (by simp only [arr_size]) (arr_all_bv _ _) ?_; intro W4 hS4 hz4 hb4 ho4))
    refine bodyPost_ret (results_cell_tmp (p := 2) (q := 3) rfl _ _ w.heap.size 37 _ _ rfl hS4 Tryd.underlying37 rfl (by rw [arr_size]; kernel_rfl)) rfl ?_
    exact ⟨HO.out _ rfl, hw2.trans (hb4.mono (Nat.le_refl _))⟩
end Go.Proofs.YtkbdkeclbokhdaaDoor
