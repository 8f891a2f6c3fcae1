/-
  pack.readIDs: for all bytes shorter than 2^24, in whatever memory: the IDs, in new memory, or that they are none.
-/
import Derived.Test.YtkbdkeclbokhdaaDoorQ42
import Derived.StillTailTactics
namespace Go.Proofs.YtkbdkeclbokhdaaDoor
open Go Go.RowKit PackMath

/-- The IDs of which bytes are made. -/
def idsOf (bs : List UInt8) : List (Nat → UInt8) := (List.range (bs.length / 32)).map fun k i => bs.getD (32 * k + i) 0
theorem idsOf_length (bs : List UInt8) : (idsOf bs).length = bs.length / 32 := by simp [idsOf]
theorem idsOf_getD (bs : List UInt8) (k i : Nat) (h : k < bs.length / 32) : (idsOf bs).getD k (fun _ => 0) i = bs.getD (32 * k + i) 0 := by
  simp [idsOf, List.getD_eq_getElem?_getD, h]
theorem idsOf_cut (bs : List UInt8) (h : bs.length % 32 = 0) : (idsOf bs).map id32 = cut32 bs := by
  generalize hn : bs.length = n
  induction n using Nat.strongRecOn generalizing bs with
  | _ n ih =>
    by_cases h0 : bs = []
    · subst h0
      rw [cut32, dif_pos rfl]
      rfl
    · have hpos := List.length_pos_iff.2 h0
      have hd : (bs.drop 32).length = n - 32 := by rw [List.length_drop, hn]
      have hr := ih (n - 32) (by omega) (bs.drop 32) (by rw [hd]; omega) hd
      rw [cut32, dif_neg h0, ← hr]
      have hq : bs.length / 32 = (bs.drop 32).length / 32 + 1 := by rw [hd, hn]; omega
      unfold idsOf
      rw [hq, List.range_succ_eq_map, List.map_cons, List.map_cons, List.map_map, List.map_map, List.map_map]
      congr 1
      · apply List.ext_getElem?
        intro i
        by_cases hi : i < 32
        · rw [List.getElem?_take, if_pos hi]
          simp only [id32, List.getElem?_map, List.getElem?_range hi, Option.map_some, Nat.mul_zero, Nat.zero_add]
          rw [List.getD_eq_getElem?_getD, List.getElem?_eq_getElem (by omega)]
          rfl
        · rw [List.getElem?_eq_none (by rw [id32_length]; omega), List.getElem?_eq_none (by rw [List.length_take]; omega)]
      · apply List.map_congr_left
        intro k _
        simp only [Function.comp_apply]
        congr 1
        funext i
        rw [List.getD_eq_getElem?_getD, List.getD_eq_getElem?_getD, List.getElem?_drop]
        congr 2
        omega
theorem run_arr_all {P : Program} (t e : TypeId) (N : Nat) (ht : P.underlying t = some (.array N e)) (hs : (P.info? e).map (·.size) = some 1) (g o : Nat) (w : World) :
    (Instr.sliceAt t (.pointer (some ⟨g, o, none⟩)) none none none).run P w = .ok (.slice (some ⟨g, o, none⟩) N N) w := by
  have h3 : (⟨g, o, none⟩ : Addr).add 0 = ⟨g, o, none⟩ := by simp [Addr.add]
  simp [Instr.sliceAt, Instr.sureAddr, run_underlying ht, Instr.sliceBounds, Sem.run_bind, size_one hs, h3]
theorem info_id : (Tryd.prog.info? 37).map (fun i => (i.zero, i.size, i.bytes)) = some (some (.agg (Array.replicate 32 (.int .u8 0))), 32, 32) := by kernel_rfl
theorem run_make_ids (n : Nat) (hn : n ≤ 1099511627776) (w : World) : (Instr.makeSlice 67 (.int .i64 (n : Int)) (.int .i64 (n : Int))).run Tryd.prog w = .ok (.slice (some ⟨w.heap.size, 0, none⟩) n n) (w.alloc (.cells (arr (32 * n) fun _ => bv 0) 37)) := by
  obtain ⟨i0, hi, hz0, hz1, hz2⟩ := info_parts info_id
  have h := run_make (P := Tryd.prog) w 67 37 i0 (.agg (Array.replicate 32 (.int .u8 0))) Tryd.underlying67 hi hz0 .i64 .i64 n n (by omega) (Int.le_refl _) (by rw [hz2]; omega) (by omega)
  simp only [Int.toNat_natCast] at h
  rw [h]
  have e : madeCells (Value.agg (Array.replicate 32 (.int .u8 0))).cells (n * i0.size) = arr (32 * n) fun _ => bv 0 := by
    rw [hz1, Nat.mul_comm]
    refine arr_of _ _ _ (by simp [size_madeCells]) (fun i hi => ?_)
    have hm : i % 32 < 32 := Nat.mod_lt _ (by omega)
    simp [madeCells, hi, Value.cells, hm]
    rfl
  rw [e]
/-- What stands there when k IDs are in. -/
def idsF (F : Nat → UInt8) (k i : Nat) : Value := if i < 32 * k then bv (F i) else bv 0
/-- What readIDs hands back. -/
def IDsOut (w : World) (bs : List UInt8) (e : Ending) (w' : World) : Prop :=
  if bs.length % 32 ≠ 0 then e = .returned (.tuple #[.slice none 0 0, .int .i64 23]) else
    ∃ g, e = .returned (.tuple #[.slice (some ⟨g, 0, none⟩) (bs.length / 32) (bs.length / 32), .int .i64 0]) ∧ RdI w' (fun b => w.heap.size ≤ b ∧ b < w'.heap.size) (some ⟨g, 0, none⟩) (idsOf bs)
set_option maxRecDepth 100000 in
set_option maxHeartbeats 2000000 in
theorem readIDs_any (A : Option Addr) (c : Nat) (bs : List UInt8) (hlen : bs.length < 16777216) (w : World) (hr : RdB w (fun b => b < w.heap.size) (.slice A bs.length c) bs) :
    Calls Tryd.prog 79 #[.slice A bs.length c] w fun e w' => IDsOut w bs e w' ∧ Below w.heap.size w w' := by
  obtain ⟨F, hF⟩ : ∃ F : Nat → UInt8, (fun i => bs.getD i 0) = F := ⟨_, rfl⟩
  have HF : Hid (∀ i, bs.getD i 0 = F i) := Lib.hid fun i => by rw [← hF]
  obtain ⟨n, hn⟩ : ∃ n, bs.length = n := ⟨_, rfl⟩
  have hcc : n ≤ c := by
    obtain ⟨A', c', hv, h1, h2, h3⟩ := id hr
    injection hv with e1 e2 e3
    omega
  rw [hn] at hr hlen ⊢
  have HN := Lib.hid hn
  have HR := Lib.hid hr
  clear hF hn hr
  by_cases h32 : n % 32 = 0
  · obtain ⟨q, hq⟩ : ∃ q, n / 32 = q := ⟨_, rfl⟩
    have hnq : n = 32 * q := by omega
    have dm : (n : Int) % 32 = 0 := by omega
    have dq : (n : Int) / 32 = (q : Int) := by omega
    have hmk := fun w' => run_make_ids q (by omega) w'
    have hn24 : (n : Int) < 16777216 := by omega
    have hq24 : (q : Int) < 16777216 := by omega
    have HQ := Lib.hid hnq
    have HO : Hid (∀ e w', (∃ g, e = .returned (.tuple #[.slice (some ⟨g, 0, none⟩) q q, .int .i64 0]) ∧ RdI w' (fun b => w.heap.size ≤ b ∧ b < w'.heap.size) (some ⟨g, 0, none⟩) (idsOf bs)) → IDsOut w bs e w') := Lib.hid fun e w' h => by
      unfold IDsOut
      rw [HN.out, if_neg (by omega), hq]
      exact h
    have hb0 : Below w.heap.size w (w.alloc (.cells (arr (32 * q) fun _ => bv 0) 37)) := (Below.refl _ _).alloc (Nat.le_refl _) _
    have hB0 : Blk (w.alloc (.cells (arr (32 * q) fun _ => bv 0) 37)) w.heap.size 37 (arr (32 * q) (idsF F 0)) := (Blk.new _ _ _).same (arr_congr fun i _ => by simp [idsF])
    have HB0 := Lib.hid hb0
    have HK0 := Lib.hid hB0
    clear h32 hb0 hB0 hq hnq
    go_enter Tryd.func79, Tryd.ntmps79
    go_wp2
    clear hmk dm dq
    go_loopw [19] (fun i wr => ∃ k : Nat, k ≤ q ∧ i = .int .i64 (k : Int) ∧ Blk wr w.heap.size 37 (arr (32 * q) (idsF F k)) ∧ Below w.heap.size w wr) (fun i _ => q - (intOf i).toNat)
    case atStart => exact ⟨0, by omega, rfl, HK0.out, HB0.out⟩
    case round =>
      obtain ⟨k, hk, rfl, hK, hW⟩ := hrel
      have HK := Lib.hid hK
      have HW := Lib.hid hW
      clear hK hW
      by_cases hlt : k < q
      · have hkl : (k : Int) < (q : Int) := by omega
        have hw32 : IntKind.i64.wrap ((k : Int) * 32) = (k : Int) * 32 := by rw [IntKind.wrap_i64]; have := HQ.out; omega
        have hk0 : (0 : Int) ≤ (k : Int) * 32 := by omega
        have hkn : (k : Int) * 32 ≤ (n : Int) := by have := HQ.out; omega
        have hsl := fun w' => run_arr_all (P := Tryd.prog) 37 5 32 Tryd.underlying37 (by kernel_rfl) w.heap.size (k * 32) w'
        have hfr : ∀ w', (Instr.sliceAt 42 (.slice A n c) (some (.int .i64 ((k : Int) * 32))) none none).run Tryd.prog w' = .ok (.slice (cutA A c (k * 32)) (n - k * 32) (c - k * 32)) w' := fun w' => by
          have := run_slice_from (P := Tryd.prog) 42 5 Tryd.underlying42 (by kernel_rfl) A n c (k * 32) (by have := HQ.out; omega) w'
          rw [Int.natCast_mul] at this
          exact this
        have hsrc : Hid (∀ W, Below w.heap.size w W → (0 < 32 → ∃ ad, cutA A c (k * 32) = some ad ∧ ∀ j, j < 32 → W.cell? (ad.add j) = some ((fun j => bv (F (k * 32 + j))) j))) := Lib.hid fun W hb _ => by
          obtain ⟨A', c', hv, h1, h2, h3⟩ := (HR.out.kept (W' := W) fun a x ha h => (hb.cell (p := a) ha).trans h).cut (k := k * 32) (by have := HQ.out; omega)
          injection hv with e1 e2 e3
          have hln : (bs.drop (k * 32)).length = n - k * 32 := by rw [List.length_drop, HN.out]
          obtain ⟨ad, e, _, hc⟩ := h3 (by rw [hln]; have := HQ.out; omega)
          refine ⟨ad, e1.trans e, fun j hj => ?_⟩
          rw [hc j (by rw [hln]; have := HQ.out; omega), List.getD_eq_getElem?_getD, List.getElem?_drop, ← List.getD_eq_getElem?_getD, HF.out]
        have hcopy : Hid (∀ i, i < 32 * q → (if k * 32 ≤ i ∧ i < k * 32 + 32 then (fun j => bv (F (k * 32 + j))) (i - k * 32) else idsF F k i) = idsF F (k + 1) i) := Lib.hid fun i hi => by
          unfold idsF
          by_cases h : k * 32 ≤ i ∧ i < k * 32 + 32
          · rw [if_pos h, if_pos (by omega)]
            show bv (F (k * 32 + (i - k * 32))) = _
            rw [show k * 32 + (i - k * 32) = i by omega]
          · rw [if_neg h]
            by_cases h2 : i < 32 * k
            · rw [if_pos h2, if_pos (by omega)]
            · rw [if_neg h2, if_neg (by omega)]
        have hfit : k * 32 + 32 ≤ 32 * q := by omega
        have hmin : Nat.min (n - k * 32) 32 = 32 := by have := HQ.out; show min _ _ = _; omega
        have HMIN := Lib.hid hmin
        have HFIT := Lib.hid hfit
        clear hmin hfit
        go_wp2
        go_still_tail 9, (by kernel_rfl)
        change wpList _ _ _ _ _ wr.drew
        have HWD : Hid (Below w.heap.size w wr.drew) := Lib.hid HW.out.drew
        have HKD : Hid (Blk wr.drew w.heap.size 37 (arr (32 * q) (idsF F k))) := Lib.hid HK.out
        clear hsl hfr hw32 hk0 hkn
        generalize wr.drew = W2 at *
        go_wp2_with (refine wpList_copy_arrW rfl _ _ 42 42 rfl 5 Tryd.underlying42 (by kernel_rfl) w.heap.size (k * 32) 32 32 rfl (cutA A c (k * 32)) (n - k * 32) (c - k * 32) rfl 32 (32 * q) (idsF F k) 37 HKD.out HMIN.out (fun j => bv (F (k * 32 + j))) (hsrc.out W2 HWD.out) HFIT.out (fun _ _ => rfl) (idsF F (k + 1)) hcopy.out ?_; intro W3 hS3 hz3 hb3 ho3)
        go_roundw
        case rel => exact ⟨k + 1, by omega, by go_num, hS3, HWD.out.trans hb3⟩
        case measure => simp [intOf]; omega
      · obtain rfl : k = q := by omega
        go_wp2
        go_ret2
        refine ⟨HO.out _ _ ⟨w.heap.size, rfl, fun j hj => ⟨_, rfl, ⟨Nat.le_refl _, HK.out.lt⟩, fun i hi => ?_⟩⟩, HW.out⟩
        have hj' : j < k := by rw [idsOf_length, HN.out, HQ.out] at hj; omega
        rw [add_zero_block, HK.out.cell, arr_get, if_pos (by omega), idsOf_getD bs j i (by rw [HN.out, HQ.out]; omega), HF.out]
        unfold idsF
        rw [if_pos (by omega)]
  · have HO : Hid (∀ e w', e = .returned (.tuple #[.slice none 0 0, .int .i64 23]) → IDsOut w bs e w') := Lib.hid fun e w' h => by
      unfold IDsOut
      rw [HN.out, if_pos h32]
      exact h
    have dn : ((n : Int) % 32 == 0) = false := by simp; omega
    have dn2 : ((n : Int) % 32 != 0) = true := by simp; omega
    have hn0 : (n : Int) < 16777216 := by omega
    clear h32
    go_enter Tryd.func79, Tryd.ntmps79
    go_wp2
    go_ret2
    exact ⟨HO.out _ _ rfl, Below.refl _ _⟩
end Go.Proofs.YtkbdkeclbokhdaaDoor
