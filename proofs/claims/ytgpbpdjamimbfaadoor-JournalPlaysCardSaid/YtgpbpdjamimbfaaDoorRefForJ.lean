/-
  The reference's Text, For, Leaf and Node: for whatever sums, texts and lists of texts, in whatever memory.
-/
import Derived.Test.YtgpbpdjamimbfaaDoorForJ
import Derived.Deep.RegionLaw
namespace Go.Proofs.YtgpbpdjamimbfaaDoor
open Go Go.RowKit Go.Shelf

theorem forBytes_nil (p : List UInt8) : forBytes p [] = p ++ [0] := by simp [forBytes]
theorem forBytes_snoc (p : List UInt8) (qs : List (List UInt8)) (k : Nat) (h : k < qs.length) : forBytes p (qs.take (k + 1)) = forBytes p (qs.take k) ++ (len4 (qs.getD k []).length ++ qs.getD k []) := by
  unfold forBytes
  rw [List.take_succ_eq_append_getElem h, List.flatMap_append, List.getD_eq_getElem?_getD, List.getElem?_eq_getElem h]
  simp
theorem forBytes_le (p : List UInt8) (qs : List (List UInt8)) (k : Nat) : (forBytes p (qs.take k)).length ≤ (forBytes p qs).length := by
  unfold forBytes
  have : (qs.take k).flatMap (fun q => len4 q.length ++ q) <+: qs.flatMap (fun q => len4 q.length ++ q) := by
    conv => rhs; rw [← List.take_append_drop k qs, List.flatMap_append]
    exact List.prefix_append _ _
  have := this.length_le
  simp only [List.length_append, List.length_cons]
  omega

set_option maxRecDepth 100000 in
set_option maxHeartbeats 1000000 in
theorem refFor_any (p : List UInt8) (A : Option Addr) (c : Nat) (qs : List (List UInt8)) (hn : qs.length ≤ 1048576) (hL : (forBytes p qs).length ≤ 1099511627776) (w : World) (hr : RdS w A qs) :
    Calls Tryd.prog 47 #[.string ⟨p.toArray⟩, .slice A qs.length c] w fun e w' => e = .returned (shaV (forBytes p qs)) ∧ Below w.heap.size w w' := by
  have HR := Lib.hid hr
  obtain ⟨n, hnn⟩ : ∃ n, qs.length = n := ⟨_, rfl⟩
  rw [hnn] at hn ⊢
  have HN := Lib.hid hnn
  have hZ32 : Hid (Array.replicate 32 (bv 0) = arr 32 fun _ => bv 0) := Lib.hid (by rw [← upto_none 32 (fun _ => bv 0) (bv 0)]; exact arr_congr fun i _ => by simp)
  have hcat0 : (({ data := p.toArray } : ByteArray) ++ { data := #[0] }) = ⟨(p ++ [0]).toArray⟩ := ba_app p [0]
  have hp0 : (p ++ [0]).length ≤ 1099511627776 := by
    have := forBytes_le p qs 0
    rw [List.take_zero, forBytes_nil] at this
    omega
  have hno0 : ¬ (9223372036854775807 < p.length + 1) := by simp at hp0; omega
  clear hr hnn
  go_enter Tryd.func47, Tryd.ntmps47
  go_wp2
  clear hcat0 hno0
  generalize hW : World.alloc w _ = W
  have r0 : Blk W w.heap.size 37 (arr 32 fun _ => bv 0) := by rw [← hW]; exact Blk.newAt _ _ rfl hZ32.out
  have b0 : Below w.heap.size w W := by rw [← hW]; exact (Below.refl _ _).alloc (Nat.le_refl _) _
  clear hW
  go_loopw [5, 6] (fun s i wr => ∃ k : Nat, k ≤ n ∧ i = .int .i64 (k : Int) ∧ s = .string ⟨(forBytes p (qs.take k)).toArray⟩ ∧ Blk wr w.heap.size 37 (arr 32 fun _ => bv 0) ∧ Below w.heap.size w wr) (fun _ i _ => n - (intOf i).toNat)
  case atStart => exact ⟨0, by omega, rfl, by rw [List.take_zero, forBytes_nil], r0, b0⟩
  case round =>
    clear r0 b0
    obtain ⟨k, hk, rfl, rfl, hR, hb⟩ := hrel
    by_cases hlt : k < n
    · obtain ⟨ad, rfl, had, hc⟩ := HR.out k (by rw [HN.out]; exact hlt)
      have hc1 := (hb.cell (p := ad.add k) (by rw [block_add]; exact had)).trans hc
      have hst := Lib.hid (forBytes_snoc p qs k (by rw [HN.out]; exact hlt))
      have hle := forBytes_le p qs (k + 1)
      rw [hst.out] at hle
      obtain ⟨q, hq⟩ : ∃ q, qs.getD k [] = q := ⟨_, rfl⟩
      rw [hq] at hst hle hc1
      obtain ⟨s, hs⟩ : ∃ s, forBytes p (qs.take k) = s := ⟨_, rfl⟩
      rw [hs] at hst hle ⊢
      have hql : q.length ≤ 1099511627776 := by simp at hle; omega
      have hsl : s.length + (4 + q.length) ≤ 1099511627776 := by simp [len4] at hle; omega
      obtain ⟨m, hm⟩ : ∃ m, q.length = m := ⟨_, rfl⟩
      rw [hm] at hql hsl
      rw [hm] at hst
      have hqs : (⟨q.toArray⟩ : ByteArray).size = m := by rw [ba_len, hm]
      have hcv := fun (W : World) => str_rd (rdB_cells (W := (W.alloc (.cells (arr 4 fun i => bv (len4f m i)) 5)).drew) (ok := fun _ => True) (g := W.heap.size) (n := 4) (c := 4) (bs := len4 m) (fun i hi => by
        have := ((Blk.new W 5 (arr 4 fun i => bv (len4f m i))).drew).cell i
        rw [arr_get, if_pos hi] at this
        exact this) rfl (by omega) (by omega) trivial)
      have hv : ∀ x : Nat, IntKind.u8.wrap ((x : Int).tmod 256) = ((UInt8.ofNat x).toNat : Int) := fun x => by rw [Int.tmod_eq_emod_of_nonneg (by omega), IntKind.wrap_u8']; simp
      have he : (arr 4 fun i => bv (len4f m i)) = #[.int .u8 (IntKind.u8.wrap (((m / 16777216 : Nat) : Int).tmod 256)), .int .u8 (IntKind.u8.wrap (((m / 65536 : Nat) : Int).tmod 256)), .int .u8 (IntKind.u8.wrap (((m / 256 : Nat) : Int).tmod 256)), .int .u8 (IntKind.u8.wrap ((m : Int).tmod 256))] := by rw [hv, hv, hv, hv, arr_list]; rfl
      rw [he] at hcv
      have hcat1 : (({ data := (len4 m).toArray } : ByteArray) ++ { data := q.toArray }) = ⟨(len4 m ++ q).toArray⟩ := ba_app _ _
      have hcat2 : (({ data := s.toArray } : ByteArray) ++ { data := (len4 m ++ q).toArray }) = ⟨(s ++ (len4 m ++ q)).toArray⟩ := ba_app _ _
      have hno1 : ¬ (9223372036854775807 < (len4 m).length + q.length) := by rw [hm]; simp [len4]; omega
      have hno2 : ¬ (9223372036854775807 < s.length + (len4 m ++ q).length) := by rw [List.length_append, hm]; simp [len4]; omega
      have l4 : (len4 m).length = 4 := rfl
      have hno3 : ¬ (9223372036854775807 < (len4 m).length + m) := by omega
      have hno4 : ¬ (9223372036854775807 < s.length + ((len4 m).length + q.length)) := by omega
      have hno5 : ¬ (9223372036854775807 < s.length + ((len4 m).length + m)) := by omega
      have hno6 : ¬ (9223372036854775807 < 4 + m) := by omega
      have hno7 : ¬ (9223372036854775807 < s.length + (4 + m)) := by omega
      clear l4
      obtain ⟨q1, hq1⟩ : ∃ q1, m / 16777216 = q1 := ⟨_, rfl⟩
      obtain ⟨q2, hq2⟩ : ∃ q2, m / 65536 = q2 := ⟨_, rfl⟩
      obtain ⟨q3, hq3⟩ : ∃ q3, m / 256 = q3 := ⟨_, rfl⟩
      rw [hq1, hq2, hq3] at hcv
      have d1 : (m : Int).tdiv 16777216 = (q1 : Int) := by rw [Int.tdiv_eq_ediv_of_nonneg (by omega)]; omega
      have d2 : (m : Int).tdiv 65536 = (q2 : Int) := by rw [Int.tdiv_eq_ediv_of_nonneg (by omega)]; omega
      have d3 : (m : Int).tdiv 256 = (q3 : Int) := by rw [Int.tdiv_eq_ediv_of_nonneg (by omega)]; omega
      have d1' : (m : Int) / 16777216 = (q1 : Int) := by omega
      have d2' : (m : Int) / 65536 = (q2 : Int) := by omega
      have d3' : (m : Int) / 256 = (q3 : Int) := by omega
      have w1 : IntKind.i64.wrap (q1 : Int) = (q1 : Int) := by rw [IntKind.wrap_i64]; omega
      have w2 : IntKind.i64.wrap (q2 : Int) = (q2 : Int) := by rw [IntKind.wrap_i64]; omega
      have w3 : IntKind.i64.wrap (q3 : Int) = (q3 : Int) := by rw [IntKind.wrap_i64]; omega
      clear hv he
      have hc2 : ∀ o, (wr.alloc o).cell? (ad.add k) = some (.string ⟨q.toArray⟩) := fun o => (World.cell?_alloc_lt _ _ _ (by rw [block_add]; have := hb.size; omega)).trans hc1
      have HR1 := Lib.hid hR
      have HBB := Lib.hid hb
      have hkn : (k : Int) < (n : Int) := by omega
      clear hR hb hle hs hq had hc hq1 hq2 hq3 hm
      go_wp2
      go_region_with (fail)
      all_goals
        go_wp2
        go_roundw
        case rel => exact ⟨k + 1, by omega, by go_num, by rw [hst.out], (HR1.out.alloc _).drew, (HBB.out.alloc HBB.out.size _).drew⟩
        case measure => simp [intOf]; omega
    · obtain rfl : k = n := by omega
      rw [show qs.take k = qs from by rw [← HN.out]; simp]
      have HR1 := Lib.hid hR
      have HBB := Lib.hid hb
      have hsz := hb.size
      clear hR hb
      have HOF := Lib.hid (refOf_any (forBytes p qs) hL wr)
      go_wp2_with (first
        | (go_at_call 61; refine HOF.out.mono ?_; rintro e w3 ⟨rfl, hb3⟩; have hR3 := HR1.out.below hb3 HR1.out.lt)
        | (refine wpList_store_row rfl 37 _ _ rfl w.heap.size (arr 32 fun i => bv (sha (forBytes p qs) i)) rfl rfl 37 _ hR3 (by rw [arr_size]; kernel_rfl) (by rw [arr_size, arr_size]) (arr_all_bv _ _) ?_))
      refine bodyPost_ret (v := shaV (forBytes p qs)) (results_cell_row (p := 4) (ty := 37) rfl _ _ w.heap.size 37 _ (0, 0) _ rfl (hR3.setRow _) Tryd.underlying37 rfl (by rw [arr_size]; kernel_rfl)) rfl ⟨rfl, below_setRow (HBB.out.trans (hb3.mono hsz)) (Nat.le_refl _) _⟩
end Go.Proofs.YtgpbpdjamimbfaaDoor
