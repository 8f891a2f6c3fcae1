/-
  The reference's digits, run, text: a number's bytes, a text with its length ahead, an ID's bytes, as strings. For every argument, in whatever memory.
-/
import Derived.Test.YtekakelkjnhehaaPackStr
namespace Go.Proofs.Ytekakelkjnhehaa
open Go Go.RowKit PackMath

theorem rd_new (w : World) (bs : List UInt8) (cs : Array Value) (hcs : cs = (bs.map bv).toArray) (n : Nat) (hn : bs.length = n) (hm : n ≤ 140737488351232) : RdB (w.alloc (.cells cs 5)) (fun b => b = w.heap.size) (.slice (some ⟨w.heap.size, 0, none⟩) n n) bs := by
  subst hcs
  refine rdB_cells (n := n) (fun i hi => ?_) hn (Nat.le_refl _) hm rfl
  rw [(Blk.new w 5 (bs.map bv).toArray).cell]
  simp [List.getD_eq_getElem?_getD, List.getElem?_eq_getElem (show i < bs.length by omega)]
theorem rd_one (W : World) (y : UInt8) : RdB (W.alloc (.cells #[bv y] 5)) (fun b => b = W.heap.size) (.slice (some ⟨W.heap.size, 0, none⟩) 1 1) [y] := rd_new W [y] _ rfl 1 rfl (by omega)
set_option maxRecDepth 100000 in
set_option maxHeartbeats 1000000 in
theorem refDigits_any (n : Nat) (hn : n ≤ 1099511627776) (w : World) : Calls Try.prog 31 #[.int .i64 (n : Int)] w fun e w' => e = .returned (.string ⟨(digits n).toArray⟩) ∧ Below w.heap.size w w' := by
  have hd6 := digits_length 6 n (by omega)
  obtain ⟨dn, hdn⟩ : ∃ dn, digits n = dn := ⟨_, rfl⟩
  rw [hdn] at hd6 ⊢
  have HDN := Lib.hid hdn
  clear hdn
  go_enter Try.func31, Try.ntmps31
  go_wp2
  go_loopw [0, 3] (fun v s wr => ∃ (m : Nat) (t : List UInt8), m ≤ n ∧ v = .int .i64 (m : Int) ∧ s = .string ⟨t.toArray⟩ ∧ digits m ++ t = dn ∧ Below w.heap.size w wr) (fun v _ _ => (intOf v).toNat)
  case atStart => exact ⟨n, [], Nat.le_refl _, rfl, rfl, by rw [HDN.out]; simp, Below.refl _ _⟩
  case round =>
    obtain ⟨m, t, hm, rfl, rfl, ht, hb⟩ := hrel
    have htl : t.length ≤ 6 := by rw [← ht, List.length_append] at hd6; omega
    by_cases h0 : 0 < m
    · have hd := digits_pos h0
      rw [hd] at ht
      have HT := Lib.hid ht
      have HB := Lib.hid hb
      have hm40 : (m : Int) ≤ 1099511627776 := by omega
      have hm0 : (0 : Int) < (m : Int) := by omega
      have hcv := fun W => str_rd (rd_one W (UInt8.ofNat m))
      have eb : bv (UInt8.ofNat m) = .int .u8 ((m : Int) % 256) := by unfold bv; rw [UInt8.toNat_ofNat']; congr 1
      rw [eb] at hcv
      obtain ⟨y, hy⟩ : ∃ y, UInt8.ofNat m = y := ⟨_, rfl⟩
      rw [hy] at hcv
      have HY := Lib.hid hy
      have hcat : (({ data := [y].toArray } : ByteArray) ++ { data := t.toArray }) = ⟨(y :: t).toArray⟩ := ba_app _ _
      have hno : ¬ (9223372036854775807 < [y].length + t.length) := by simp; omega
      clear ht hb hd eb hy
      go_wp2
      go_roundw
      case rel =>
        refine ⟨m / 256, y :: t, by omega, by go_num, rfl, ?_, HB.out.alloc HB.out.size _⟩
        rw [← HT.out, HY.out]; simp
      case measure => simp [intOf]; omega
    · obtain rfl : m = 0 := by omega
      rw [digits_zero, List.nil_append] at ht
      have HT := Lib.hid ht
      have HB := Lib.hid hb
      clear ht hb htl
      go_wp2
      go_ret
      exact ⟨by rw [← HT.out]; rfl, HB.out⟩
set_option maxRecDepth 100000 in
set_option maxHeartbeats 1000000 in
theorem refRun_any (s : List UInt8) (hs : s.length < 16777216) (w : World) : Calls Try.prog 22 #[.string ⟨s.toArray⟩] w fun e w' => e = .returned (.string ⟨(run s).toArray⟩) ∧ Below w.heap.size w w' := by
  obtain ⟨m, hm⟩ : ∃ m, s.length = m := ⟨_, rfl⟩
  have hcv := str_rd (rd_new w (len3 m) #[.int .u8 ((m : Int) / 65536), .int .u8 ((m : Int) / 256 % 256), .int .u8 ((m : Int) % 256)] (by
    have h1 : bv (UInt8.ofNat (m / 65536)) = .int .u8 ((m : Int) / 65536) := by unfold bv; rw [UInt8.toNat_ofNat']; congr 1; omega
    have h2 : bv (UInt8.ofNat (m / 256)) = .int .u8 ((m : Int) / 256 % 256) := by unfold bv; rw [UInt8.toNat_ofNat']; congr 1
    have h3 : bv (UInt8.ofNat m) = .int .u8 ((m : Int) % 256) := by unfold bv; rw [UInt8.toNat_ofNat']; congr 1
    rw [← h1, ← h2, ← h3]; rfl) 3 rfl (by omega))
  have hrun : Hid (run s = len3 m ++ s) := Lib.hid (by rw [run, hm])
  have hml : (m : Int) < 16777216 := by omega
  obtain ⟨q, hq⟩ : ∃ q, len3 m = q := ⟨_, rfl⟩
  have hq3 : q.length = 3 := by rw [← hq]; rfl
  rw [hq] at hcv hrun
  have hcat : (({ data := q.toArray } : ByteArray) ++ { data := s.toArray }) = ⟨(q ++ s).toArray⟩ := ba_app _ _
  have hno : ¬ (9223372036854775807 < q.length + s.length) := by omega
  subst hm
  clear hq hq3 hs
  go_enter Try.func22, Try.ntmps22
  go_wp2
  go_ret
  exact ⟨by rw [hrun.out]; rfl, (Below.refl _ _).alloc (Nat.le_refl _) _⟩
set_option maxRecDepth 100000 in
set_option maxHeartbeats 1000000 in
theorem refText_any (f : Nat → UInt8) (w : World) : Calls Try.prog 32 #[.agg (arr 32 fun i => bv (f i))] w fun e w' => e = .returned (.string ⟨(id32 f).toArray⟩) ∧ Below w.heap.size w w' := by
  have b0 : Blk (w.alloc (.cells (arr 32 fun i => bv (f i)) 31)) w.heap.size 31 (arr 32 fun i => bv (f i)) := Blk.new _ _ _
  have hb0 : Below w.heap.size w (w.alloc (.cells (arr 32 fun i => bv (f i)) 31)) := (Below.refl _ _).alloc (Nat.le_refl _) _
  obtain ⟨M, hM⟩ : ∃ M, (arr 32 fun i => bv (f i)) = M := ⟨_, rfl⟩
  have HM := Lib.hid hM
  rw [hM] at b0 hb0 ⊢
  clear hM
  go_enter Try.func32, Try.ntmps32
  go_wp2
  go_loopw [3, 4] (fun s i wr => ∃ k : Nat, k ≤ 32 ∧ i = .int .i64 (k : Int) ∧ s = .string ⟨((id32 f).take k).toArray⟩ ∧ Blk wr w.heap.size 31 M ∧ Below w.heap.size w wr) (fun _ i _ => 32 - (intOf i).toNat)
  case atStart => exact ⟨0, by omega, rfl, rfl, b0, hb0⟩
  case round =>
    clear b0 hb0
    obtain ⟨k, hk, rfl, rfl, hB, hb⟩ := hrel
    by_cases hlt : k < 32
    · have c1 := hB.cell k
      rw [← HM.out, arr_get, if_pos hlt] at c1
      obtain ⟨y, hy⟩ : ∃ y, f k = y := ⟨_, rfl⟩
      rw [hy] at c1
      unfold bv at c1
      have hst : Hid ((id32 f).take (k + 1) = (id32 f).take k ++ [y]) := Lib.hid (by
        rw [List.take_succ_eq_append_getElem (by simp [id32]; exact hlt)]
        simp [id32, hy])
      have hln : ((id32 f).take k).length ≤ 32 := by rw [List.length_take]; simp [id32]; omega
      obtain ⟨s, hs⟩ : ∃ s, (id32 f).take k = s := ⟨_, rfl⟩
      rw [hs] at hst hln ⊢
      have hcv := fun W => str_rd (rd_one W y)
      have hcat : (({ data := s.toArray } : ByteArray) ++ { data := [y].toArray }) = ⟨(s ++ [y]).toArray⟩ := ba_app _ _
      have hno : ¬ (9223372036854775807 < s.length + [y].length) := by simp; omega
      have HB := Lib.hid hB
      have HBB := Lib.hid hb
      have k1 : (k : Int) < 32 := by omega
      clear hB hb hs hy
      unfold bv at hcv
      go_wp2
      go_roundw
      case rel => exact ⟨k + 1, by omega, by go_num, by rw [hst.out], (HB.out.alloc _), HBB.out.alloc HBB.out.size _⟩
      case measure => simp [intOf]; omega
    · obtain rfl : k = 32 := by omega
      rw [show (id32 f).take 32 = id32 f from by rw [List.take_of_length_le (by simp [id32])]]
      have HBB := Lib.hid hb
      clear hB hb
      obtain ⟨s, hs⟩ : ∃ s, id32 f = s := ⟨_, rfl⟩
      rw [hs]
      have HS := Lib.hid hs
      clear hs
      go_wp2
      go_ret
      exact ⟨by rw [HS.out]; rfl, HBB.out⟩
end Go.Proofs.Ytekakelkjnhehaa
