/-
  The reference's filled-up string: for every string of at most 2^40 bytes, in whatever memory.
-/
import Derived.Test.YtkkanaefngggoaaDoorOwnBT
import Derived.Test.YtkkanaefngggoaaDoorCountT
namespace Go.Proofs.YtkkanaefngggoaaDoor
open Go Go.RowKit Go.Shelf
attribute [local go_sem] Oper.semAt_some

/-- How many zeros stand between the 128 and the count. -/
def gapZ (n : Nat) : Nat := (119 - n % 64) % 64
theorem gapZ_end (n : Nat) : (n + 1 + gapZ n) % 64 = 56 := by unfold gapZ; omega
theorem gapZ_lt (n k : Nat) (h : k < gapZ n) : (n + 1 + k) % 64 ≠ 56 := by unfold gapZ at h; omega
def cntBytes (c : Nat) : List UInt8 := (List.range 8).map (cntByte c)
def filled (L : List UInt8) : List UInt8 := L ++ [128] ++ List.replicate (gapZ L.length) 0 ++ cntBytes (L.length * 8)

/-- The count's bytes, the last k of them written. -/
def cntTo (c k : Nat) (i : Nat) : UInt8 := if 8 ≤ i + k then cntByte c i else 0
theorem cntTo_set (c k : Nat) (hk : k < 8) : (arr 8 fun i => bv (cntTo c k i)).setIfInBounds (7 - k) (bv (cntByte c (7 - k))) = arr 8 fun i => bv (cntTo c (k + 1) i) := by
  rw [arr_set _ _ _ _ (by omega)]
  refine arr_congr fun i hi => ?_
  unfold cntTo
  by_cases h : i = 7 - k
  · subst h; rw [if_pos rfl, if_pos (by omega)]
  · rw [if_neg h]
    by_cases h2 : 8 ≤ i + k
    · rw [if_pos h2, if_pos (by omega)]
    · rw [if_neg h2, if_neg (by omega)]

theorem rdB_one (W : World) (b : UInt8) : RdB (W.alloc (.cells #[bv b] 5)) (fun _ => True) (.slice (some ⟨W.heap.size, 0, none⟩) 1 1) [b] :=
  rdB_cells (fun i hi => by
    obtain rfl : i = 0 := by omega
    have := (Blk.new W 5 #[bv b]).cell 0
    exact this) rfl (by omega) (by omega) trivial

theorem OwnB.setFar {w : World} {base g n cap : Nat} {bs : List UInt8} (h : OwnB w base (.slice (some ⟨g, 0, none⟩) n cap) bs) (p : Addr) (v : Value) (hp : p.block ≠ g) : OwnB (w.setCell p v) base (.slice (some ⟨g, 0, none⟩) n cap) bs := by
  obtain ⟨g', cap', e, h2, h3, h4, h5, h6, h7⟩ := h
  injection e with e1 e2 e3
  injection e1 with e1
  injection e1 with e1
  subst e1
  have hne : ∀ j, p ≠ (⟨g, j, none⟩ : Addr) := fun j hj => hp (by rw [hj])
  exact ⟨g, cap', by rw [e2, e3], h2, by simpa [World.setCell] using h3, h4, h5, fun j hj => ⟨by rw [World.cell?_setCell_other _ p _ v (hne j)]; exact (h6 j hj).1, by rw [World.frozen?_setCell]; exact (h6 j hj).2⟩, fun j hj => by rw [World.cell?_setCell_other _ p _ v (hne j)]; exact h7 j hj⟩
theorem own_back {w : World} {base : Nat} {v : Value} {l : List UInt8} (h : OwnB w base v l) : (convert 51 9 v).run Tryd.prog w = .ok (.string ⟨l.toArray⟩) w := by
  obtain ⟨g, cap, rfl, h2, h3, h4, h5, h6, h7⟩ := h
  refine run_convert_bytes_back (P := Tryd.prog) w 51 9 5 ⟨g, 0, none⟩ cap l Tryd.underlying51 Tryd.underlying5 Tryd.underlying9 (fun j hj => ?_)
  rw [add_zero_block, h7 j hj]
  simp [bv, List.getD_eq_getElem?_getD, hj]

set_option maxRecDepth 100000 in
set_option maxHeartbeats 1000000 in
theorem filled_any (L : List UInt8) (hL : L.length ≤ 1099511627776) (w : World) :
    CallsIn Fence.wide 0 Tryd.prog 63 #[.string ⟨L.toArray⟩] w fun e w' => e = .returned (.string ⟨(filled L).toArray⟩) ∧ Below w.heap.size w w' := by
  obtain ⟨i0, hi, hz0, hz1, hz2⟩ := info_parts info_u8
  obtain ⟨v1, w1, hcv, hown1, hb1⟩ := run_bytes_of L hL w
  have HI := Lib.hid (And.intro hi (And.intro hz0 (And.intro hz1 hz2)))
  have HO1 := Lib.hid hown1
  have HB1 := Lib.hid hb1
  clear hi hz0 hz1 hz2 hown1 hb1
  refine callsIn_of_wp Tryd.func63 rfl trivial ?_ rfl
  simp only [Tryd.ntmps63, List.size_toArray, List.length_cons, List.length_nil, Nat.reduceAdd, Nat.reduceSub, Array.replicate_succ, Array.replicate_zero, List.push_toArray, List.append_toArray, List.nil_append, List.cons_append]
  gi_wp2_with (first
    | (refine wpListIn_convert_run (fun _ => trivial) rfl 9 51 _ rfl _ rfl v1 w1 hcv ?_)
    | (refine wpListIn_append_ownB (fun _ => trivial) rfl _ _ 51 rfl w.heap.size 5 i0 (.int .u8 0) Tryd.underlying51 HI.out.1 HI.out.2.1 HI.out.2.2.1 HI.out.2.2.2 rfl v1 L rfl (HO1.out.below (Below.refl _ _ |>.alloc (Nat.le_refl _) _)) (fun _ => True) _ _ _ [128] rfl (rdB_one w1 128) (by simp) (by simp; omega) (by have := HB1.out.size; simp; omega) ?_
       intro v2 w2 hown2 hb2))
  have hb02 : Below w.heap.size w w2 := (HB1.out.alloc HB1.out.size _).trans hb2
  clear hb2
  gi_loopw [3] (fun v wr => ∃ k : Nat, k ≤ gapZ L.length ∧ OwnB wr w.heap.size v (L ++ [128] ++ List.replicate k 0) ∧ Below w.heap.size w wr) (fun v _ => L.length + 1 + gapZ L.length - slen v)
  case atStart => exact ⟨0, by omega, by simpa using hown2, hb02⟩
  case round =>
    clear hown2 hb02
    obtain ⟨k, hk, hown, hb⟩ := hrel
    have hown' := hown
    obtain ⟨g, cap, rfl, h2, h3, h4, h5, h6, h7⟩ := hown'
    have hlen : (L ++ [128] ++ List.replicate k (0 : UInt8)).length = L.length + 1 + k := by simp; omega
    rw [hlen] at hown ⊢
    clear h2 h3 h4 h5 h6 h7
    have Hown := Lib.hid hown
    have Hhb := Lib.hid hb
    clear hown hb
    by_cases hlt : k < gapZ L.length
    · have hne : (((L.length : Int) + 1 + (k : Int)) % 64 != 56) = true := by have := gapZ_lt _ _ hlt; rw [bne_iff_ne]; omega
      gi_wp2_with (
        (refine wpListIn_append_ownB (fun _ => trivial) rfl _ _ 51 rfl w.heap.size 5 i0 (.int .u8 0) Tryd.underlying51 HI.out.1 HI.out.2.1 HI.out.2.2.1 HI.out.2.2.2 rfl _ (L ++ [128] ++ List.replicate k 0) rfl (Hown.out.below (Below.refl _ _ |>.alloc (Nat.le_refl _) _)) (fun _ => True) _ _ _ [0] rfl (rdB_one wr 0) (by simp) (by rw [hlen]; simp; unfold gapZ at hlt; omega) (by have := Hhb.out.size; simp; omega) ?_
         intro v3 w3 hown3 hb3))
      go_roundw
      case rel => exact ⟨k + 1, by omega, by rw [List.append_assoc, ← List.replicate_succ'] at hown3; exact hown3, (Hhb.out.alloc Hhb.out.size _).trans hb3⟩
      case measure =>
        obtain ⟨g', cap', rfl, _⟩ := hown3
        rw [List.length_append, hlen]
        simp [slen]
        omega
    · obtain rfl : k = gapZ L.length := by omega
      have hne : (((L.length : Int) + 1 + (gapZ L.length : Int)) % 64 != 56) = false := by have := gapZ_end L.length; rw [Bool.eq_false_iff]; simp; omega
      have hmk : ∀ w', (Instr.makeSlice 51 (.int .i64 8) (.int .i64 8)).run Tryd.prog w' = _ := fun w' => run_make_bytes 8 (by omega) w'
      gi_wp2
      clear hmk hne
      obtain ⟨W3, hW3⟩ : ∃ W3, wr.alloc (Obj.cells (arr 8 fun x => bv 0) 5) = W3 := ⟨_, rfl⟩
      have c0 : Blk W3 wr.heap.size 5 (arr 8 fun i => bv (cntTo (L.length * 8) 0 i)) := by rw [← hW3]; exact (Blk.new wr _ _).same (arr_congr fun i hi => by rw [cntTo, if_neg (by omega)])
      have o0 : OwnB W3 w.heap.size (Value.slice (some ⟨g, 0, none⟩) (L.length + 1 + gapZ L.length) cap) (L ++ [128] ++ List.replicate (gapZ L.length) 0) := by rw [← hW3]; exact Hown.out.below ((Below.refl _ _).alloc (Nat.le_refl _) _)
      have b0 : Below w.heap.size w W3 := by rw [← hW3]; exact Hhb.out.alloc Hhb.out.size _
      have g0 : g < wr.heap.size := by obtain ⟨g', cap', e, h2, h3, _⟩ := Hown.out; injection e with e1 e2 e3; injection e1 with e1; injection e1 with e1; omega
      have Hh := Lib.hid Hhb.out.size
      rw [hW3]
      clear hW3 Hown Hhb
      generalize hG : wr.heap.size = G at *
      clear hG
      gi_loopw [5, 6] (fun a b W => ∃ k : Nat, k ≤ 8 ∧ a = .int .u64 ((L.length * 8 / 2 ^ (8 * k) : Nat) : Int) ∧ b = .int .i64 (7 - (k : Int)) ∧ Blk W G 5 (arr 8 fun i => bv (cntTo (L.length * 8) k i)) ∧ OwnB W w.heap.size (Value.slice (some ⟨g, 0, none⟩) (L.length + 1 + gapZ L.length) cap) (L ++ [128] ++ List.replicate (gapZ L.length) 0) ∧ Below w.heap.size w W) (fun a b _ => (intOf b + 1).toNat)
      case atStart => exact ⟨0, by omega, by simp, by simp, c0, o0, b0⟩
      case round =>
        clear c0 o0 b0
        obtain ⟨k, hk, rfl, rfl, c1, o1, b1⟩ := hrel
        by_cases hlt : k < 8
        · have hc2 := c1.cell (7 - k)
          have hf2 := c1.frozen (7 - k)
          rw [arr_get, if_pos (by omega)] at hc2
          obtain ⟨n, hn⟩ : ∃ n, L.length * 8 / 2 ^ (8 * k) = n := ⟨_, rfl⟩
          have hn2 : L.length * 8 / 2 ^ (8 * (k + 1)) = n / 256 := by rw [← hn, Nat.div_div_eq_div_mul, show 8 * (k + 1) = 8 * k + 8 from by omega, Nat.pow_add]
          have hle : n ≤ L.length * 8 := by rw [← hn]; exact Nat.div_le_self _ _
          have hw : ((n : Int) % 256) = ((cntByte (L.length * 8) (7 - k)).toNat : Int) := by
            unfold cntByte
            rw [show 56 - 8 * (7 - k) = 8 * k from by omega, hn]
            simp
          rw [hn]
          have t1 : ((7 : Int) - (k : Int)).toNat = 7 - k := by omega
          have O1 := Lib.hid o1
          have B1 := Lib.hid b1
          clear o1 b1 hn
          gi_wp2
          go_roundw
          case rel =>
            refine ⟨k + 1, by omega, by rw [hn2]; go_num, by go_num, ?_, O1.out.setFar _ _ (by show G ≠ g; omega), B1.out.setCell (by have := Hh.out; simpa using this) _⟩
            exact (c1.store (7 - k) (bv (cntByte (L.length * 8) (7 - k)))).same (cntTo_set _ k hlt)
          case measure => simp [intOf]; omega
        · obtain rfl : k = 8 := by omega
          have hrb : RdB wr (fun _ => True) (.slice (some ⟨G, 0, none⟩) 8 8) (cntBytes (L.length * 8)) := rdB_blk c1 (fun i hi => by
            unfold cntTo cntBytes
            rw [if_pos (by omega)]
            simp [List.getD_eq_getElem?_getD, hi]) (by simp [cntBytes]) (by omega) (by omega) (by omega) trivial
          have O1 := Lib.hid o1
          have B1 := Lib.hid b1
          clear o1 b1
          gi_wp2_with (first
            | (refine wpListIn_append_ownB (fun _ => trivial) rfl _ _ 51 rfl w.heap.size 5 i0 (.int .u8 0) Tryd.underlying51 HI.out.1 HI.out.2.1 HI.out.2.2.1 HI.out.2.2.2 rfl _ (L ++ [128] ++ List.replicate (gapZ L.length) 0) rfl O1.out (fun _ => True) _ _ _ (cntBytes (L.length * 8)) rfl hrb (by simp) (by rw [hlen]; unfold gapZ; omega) B1.out.size ?_
               intro v5 w5 hown5 hb5; obtain ⟨hcv5⟩ : Nonempty ((convert 51 9 v5).run Tryd.prog w5 = .ok (.string ⟨(filled L).toArray⟩) w5) := ⟨own_back hown5⟩)
            | (refine wpListIn_convert_run (fun _ => trivial) rfl 51 9 _ rfl _ rfl _ _ hcv5 ?_))
          go_ret
          exact ⟨rfl, B1.out.trans hb5⟩
end Go.Proofs.YtkkanaefngggoaaDoor
