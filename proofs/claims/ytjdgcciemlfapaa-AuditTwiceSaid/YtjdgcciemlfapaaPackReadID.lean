/-
  pack.readID: for all bytes, in whatever memory: the ID, or that it is none.
-/
import Derived.Test.YtjdgcciemlfapaaPackReadN
import Derived.Test.YtjdgcciemlfapaaPackOps
namespace Go.Proofs.Ytjdgcciemlfapaa
open Go Go.RowKit PackMath

/-- What readID hands back. -/
def IDOut (bs : List UInt8) (e : Ending) : Prop := if bs.length ≠ 32 ∨ bs = zid then e = .returned (.tuple #[.agg (arr 32 fun _ => bv 0), .int .i64 23]) else e = .returned (.tuple #[.agg (arr 32 fun i => bv (bs.getD i 0)), .int .i64 0])
set_option maxRecDepth 100000 in
set_option maxHeartbeats 2000000 in
theorem readID_any (A : Option Addr) (c : Nat) (bs : List UInt8) (w : World) (hr : RdB w (fun b => b < w.heap.size) (.slice A bs.length c) bs) :
    Calls Try.prog 51 #[.slice A bs.length c] w fun e w' => IDOut bs e ∧ Below w.heap.size w w' := by
  have hz := built_zero
  have hb0 : Below w.heap.size w ((w.alloc (.cells (arr 32 fun _ => bv 0) 23)).alloc (.cells (arr 32 fun _ => bv 0) 23)) := ((Below.refl _ _).alloc (Nat.le_refl _) _).alloc (by simp) _
  have hB0 : Blk ((w.alloc (.cells (arr 32 fun _ => bv 0) 23)).alloc (.cells (arr 32 fun _ => bv 0) 23)) w.heap.size 23 (arr 32 fun _ => bv 0) := (Blk.new _ _ _).alloc _
  have hB1 : Blk ((w.alloc (.cells (arr 32 fun _ => bv 0) 23)).alloc (.cells (arr 32 fun _ => bv 0) 23)) (w.heap.size + 1) 23 (arr 32 fun _ => bv 0) := Blk.newAt _ _ (by simp) rfl
  obtain ⟨n, hn⟩ : ∃ n, bs.length = n := ⟨_, rfl⟩
  rw [hn] at hr ⊢
  have HN := Lib.hid hn
  have hnl : n ≤ 140737488351232 := by
    obtain ⟨A', c', hv, h1, h2, h3⟩ := hr
    rw [hn] at h2
    exact h2
  have HR := Lib.hid hr
  have HB := Lib.hid hb0
  have HB0 := Lib.hid hB0
  have HB1 := Lib.hid hB1
  clear hn hr hb0 hB0 hB1
  have hd32 : Hid (n ≠ 32 ∨ n = 32) := Lib.hid (by omega)
  by_cases h32 : n = 32
  · subst h32
    obtain ⟨F, hF⟩ : ∃ F : Nat → UInt8, (fun i => bs.getD i 0) = F := ⟨_, rfl⟩
    have hFi : ∀ i, bs.getD i 0 = F i := fun i => by rw [← hF]
    have heq := fun w' => eql_id F (fun _ => 0) w'
    rw [id32_zero, ← hF, id32_of bs HN.out, hF] at heq
    have HFI := Lib.hid hFi
    have hsrc : Hid (∀ W, Below w.heap.size w W → (0 < 32 → ∃ ad, A = some ad ∧ ∀ j, j < 32 → W.cell? (ad.add j) = some ((fun j => bv (F j)) j))) := Lib.hid fun W hb _ => by
      obtain ⟨A', c', hv, h1, h2, h3⟩ := HR.out.kept (W' := W) fun a x ha h => (hb.cell (p := a) ha).trans h
      injection hv with e1 e2 e3
      subst e1
      obtain ⟨ad, e, _, hc⟩ := h3 (by rw [HN.out]; omega)
      exact ⟨ad, e, fun j hj => by rw [hc j (by rw [HN.out]; exact hj), hFi]⟩
    have hcopy : Hid (∀ i, i < 32 → (if 0 ≤ i ∧ i < 0 + 32 then (fun j => bv (F j)) (i - 0) else (fun _ => bv 0) i) = (fun i => bv (F i)) i) := Lib.hid fun i hi => by rw [if_pos (by omega), Nat.sub_zero]
    clear hF hFi
    by_cases hzb : bs = zid
    · have hb : (bs == zid) = true := by simpa using hzb
      have hzf : Hid ((arr 32 fun i => bv (F i)) = arr 32 fun _ => bv 0) := Lib.hid (arr_congr fun i hi => by rw [← HFI.out i, hzb, zid, List.getD_eq_getElem?_getD, List.getElem?_replicate, if_pos hi]; rfl)
      have HO : Hid (∀ e, e = .returned (.tuple #[.agg (arr 32 fun _ => bv 0), .int .i64 23]) → IDOut bs e) := Lib.hid fun e he => by unfold IDOut; rw [if_pos (.inr hzb)]; exact he
      rw [hb] at heq
      clear hd32 hzb hb
      go_enter Try.func51, Try.ntmps51
      go_wp2_with (first
        | (refine wpList_build rfl 23 #[] rfl (by kernel_rfl) ?_; simp only [List.map_toArray, List.map_nil]; rw [hz])
        | (refine wpList_store_arrW rfl 23 _ _ rfl (w.heap.size + 1) (arr 32 fun _ => bv 0) rfl rfl 23 _ (Blk.newAt _ _ (by simp) rfl) (by rw [arr_size]; kernel_rfl) (by rw [arr_size]; rfl) (arr_all_bv _ _) ?_; intro W2 hS2 hz2 hb2 ho2; have hR2 : Blk W2 w.heap.size 23 (arr 32 fun _ => bv 0) := (by unfold Blk; rw [ho2 _ (by omega)]; exact ((Blk.new _ _ _).alloc _).same (by kernel_rfl)); have hw2 : Below w.heap.size w W2 := (((Below.refl _ w).alloc (Nat.le_refl _) _).alloc (by simp) _).trans (hb2.mono (by omega)); clear hz2 hb2 ho2)
        | (refine wpList_copy_arrW rfl _ _ 24 24 rfl 5 Try.underlying24 (by kernel_rfl) (w.heap.size + 1) 0 32 32 rfl A 32 c rfl 32 32 (fun _ => bv 0) 23 hS2 rfl (fun j => bv (F j)) (hsrc.out W2 hw2) (by omega) (fun _ _ => rfl) (fun i => bv (F i)) hcopy.out ?_; intro W3 hS3 hz3 hb3 ho3; have hR3 : Blk W3 w.heap.size 23 (arr 32 fun _ => bv 0) := (ho3 _ (by omega)).trans hR2; have hw3 := hw2.trans (hb3.mono (Nat.le_succ _)); clear hz3 hb3 ho3 hS2 hR2 hw2)
        | (refine wpList_load_arr rfl 23 _ rfl (w.heap.size + 1) rfl 23 _ _ hS3 Try.underlying23 rfl (by rw [arr_size]; kernel_rfl) ?_)
        | (refine wpList_store_arrW rfl 23 _ _ rfl w.heap.size (arr 32 fun i => bv (F i)) rfl rfl 23 _ hR3 (by rw [arr_size]; kernel_rfl) (by simp only [arr_size]) (arr_all_bv _ _) ?_; intro W4 hS4 hz4 hb4 ho4))
      refine bodyPost_ret (results_cell_tmp (p := 2) (q := 3) rfl _ _ w.heap.size 23 _ _ rfl hS4 Try.underlying23 rfl (by rw [arr_size]; kernel_rfl)) rfl ?_
      exact ⟨HO.out _ (by rw [hzf.out]; rfl), hw3.trans (hb4.mono (Nat.le_refl _))⟩
    · have hb : (bs == zid) = false := by simpa using hzb
      have HO : Hid (∀ e, e = .returned (.tuple #[.agg (arr 32 fun i => bv (F i)), .int .i64 0]) → IDOut bs e) := Lib.hid fun e he => by unfold IDOut; rw [if_neg (by rw [HN.out]; exact fun h => h.elim (fun h => h rfl) hzb), he, arr_congr (f := fun i => bv (F i)) fun i _ => by rw [← HFI.out i]]
      rw [hb] at heq
      clear hd32 hzb hb
      go_enter Try.func51, Try.ntmps51
      go_wp2_with (first
        | (refine wpList_build rfl 23 #[] rfl (by kernel_rfl) ?_; simp only [List.map_toArray, List.map_nil]; rw [hz])
        | (refine wpList_store_arrW rfl 23 _ _ rfl (w.heap.size + 1) (arr 32 fun _ => bv 0) rfl rfl 23 _ (Blk.newAt _ _ (by simp) rfl) (by rw [arr_size]; kernel_rfl) (by rw [arr_size]; rfl) (arr_all_bv _ _) ?_; intro W2 hS2 hz2 hb2 ho2; have hR2 : Blk W2 w.heap.size 23 (arr 32 fun _ => bv 0) := (by unfold Blk; rw [ho2 _ (by omega)]; exact ((Blk.new _ _ _).alloc _).same (by kernel_rfl)); have hw2 : Below w.heap.size w W2 := (((Below.refl _ w).alloc (Nat.le_refl _) _).alloc (by simp) _).trans (hb2.mono (by omega)); clear hz2 hb2 ho2)
        | (refine wpList_copy_arrW rfl _ _ 24 24 rfl 5 Try.underlying24 (by kernel_rfl) (w.heap.size + 1) 0 32 32 rfl A 32 c rfl 32 32 (fun _ => bv 0) 23 hS2 rfl (fun j => bv (F j)) (hsrc.out W2 hw2) (by omega) (fun _ _ => rfl) (fun i => bv (F i)) hcopy.out ?_; intro W3 hS3 hz3 hb3 ho3; have hR3 : Blk W3 w.heap.size 23 (arr 32 fun _ => bv 0) := (ho3 _ (by omega)).trans hR2; have hw3 := hw2.trans (hb3.mono (Nat.le_succ _)); clear hz3 hb3 ho3 hS2 hR2 hw2)
        | (refine wpList_load_arr rfl 23 _ rfl (w.heap.size + 1) rfl 23 _ _ hS3 Try.underlying23 rfl (by rw [arr_size]; kernel_rfl) ?_)
        | (refine wpList_store_arrW rfl 23 _ _ rfl w.heap.size (arr 32 fun i => bv (F i)) rfl rfl 23 _ hR3 (by rw [arr_size]; kernel_rfl) (by simp only [arr_size]) (arr_all_bv _ _) ?_; intro W4 hS4 hz4 hb4 ho4))
      refine bodyPost_ret (results_cell_tmp (p := 2) (q := 3) rfl _ _ w.heap.size 23 _ _ rfl hS4 Try.underlying23 rfl (by rw [arr_size]; kernel_rfl)) rfl ?_
      exact ⟨HO.out _ rfl, hw3.trans (hb4.mono (Nat.le_refl _))⟩
  · have HO : Hid (∀ e, e = .returned (.tuple #[.agg (arr 32 fun _ => bv 0), .int .i64 23]) → IDOut bs e) := Lib.hid fun e he => by unfold IDOut; rw [if_pos (.inl (by rw [HN.out]; exact h32))]; exact he
    have dn : ((n : Int) != 32) = true := by simp; omega
    have dn2 : ((n : Int) == 32) = false := by simp; omega
    clear hd32 h32
    go_enter Try.func51, Try.ntmps51
    go_wp2_with (first
      | (refine wpList_build rfl 23 #[] rfl (by kernel_rfl) ?_; simp only [List.map_toArray, List.map_nil]; rw [hz])
      | (refine wpList_store_arrW rfl 23 _ _ rfl (w.heap.size + 1) (arr 32 fun _ => bv 0) rfl rfl 23 _ (Blk.newAt _ _ (by simp) rfl) (by rw [arr_size]; kernel_rfl) (by rw [arr_size]; rfl) (arr_all_bv _ _) ?_; intro W2 hS2 hz2 hb2 ho2; have hR2 : Blk W2 w.heap.size 23 (arr 32 fun _ => bv 0) := (by unfold Blk; rw [ho2 _ (by omega)]; exact ((Blk.new _ _ _).alloc _).same (by kernel_rfl)); have hw2 : Below w.heap.size w W2 := (((Below.refl _ w).alloc (Nat.le_refl _) _).alloc (by simp) _).trans (hb2.mono (by omega)); clear hz2 hb2 ho2)
      | (refine wpList_load_arr rfl 23 _ rfl (w.heap.size + 1) rfl 23 _ _ hS2 Try.underlying23 rfl (by rw [arr_size]; kernel_rfl) ?_)
      | (refine wpList_store_arrW rfl 23 _ _ rfl w.heap.size (arr 32 fun _ => bv 0) rfl rfl 23 _ hR2 (by rw [arr_size]; kernel_rfl) (by simp only [arr_size]) (arr_all_bv _ _) ?_; intro W4 hS4 hz4 hb4 ho4))
    refine bodyPost_ret (results_cell_tmp (p := 2) (q := 3) rfl _ _ w.heap.size 23 _ _ rfl hS4 Try.underlying23 rfl (by rw [arr_size]; kernel_rfl)) rfl ?_
    exact ⟨HO.out _ rfl, hw2.trans (hb4.mono (Nat.le_refl _))⟩
end Go.Proofs.Ytjdgcciemlfapaa
