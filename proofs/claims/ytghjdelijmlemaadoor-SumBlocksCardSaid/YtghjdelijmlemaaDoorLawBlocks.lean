/-
  SumBlocks, the walk: for every bytes and every number.
-/
import Derived.Test.YtghjdelijmlemaaDoorFilledBlk
import Derived.Test.YtghjdelijmlemaaDoorStr
import Derived.Sort.QuietIn
import Derived.Stop.RegionWithIn
import Derived.BigRegionIn
import Derived.StillTailTactics
namespace Go.Proofs.YtghjdelijmlemaaDoor
open Go Go.RowKit Go.Shelf
attribute [local go_sem] Oper.semAt_some

theorem below_drewN {B : Nat} {a w : World} (h : Below B a w) (n : Nat) : Below B a (w.drewN n) := ⟨h.os, h.tape, h.output, h.size, h.block⟩
theorem wpIn_noPanic {F : Fence} {n : Nat} {P : Program} {c : Code} {K : Act → World → Prop} {Q : Exit → Act → World → Prop} {a : Act} {w : World} (h : c.wpIn F n P (Exit.then K (fun _ _ _ => False)) a w) : c.wpIn F n P (Exit.then K Q) a w :=
  Code.wpIn_mono (fun e a w h => by cases e <;> first | exact h | exact h.elim) h

set_option maxRecDepth 100000 in
set_option maxHeartbeats 1000000 in
theorem blocks_in (A : Option Addr) (c : Nat) (L : List UInt8) (n : Nat) (hn : L.length = n) (stop : Int) (w : World) (hT : Tables w) (hr : RdB w (fun b => b < w.heap.size) (.slice A n c) L) :
    CallsIn Fence.wide 0 Tryd.prog 4 #[.slice A n c, .int .i64 stop] w fun e w' => e = .returned (.bool true) ∧ Below w.heap.size w w' := by
  have HT := Lib.hid hT
  have HR := Lib.hid hr
  clear hT hr
  obtain ⟨m, hm⟩ : ∃ m, min n 500 = m := ⟨_, rfl⟩
  have hmi : min (n : Int) 500 = (m : Int) := by omega
  have hLt : (L.take m).length = m := by rw [List.length_take]; omega
  have hnc : n ≤ c := by obtain ⟨_, _, e, h1, _⟩ := HR.out; injection e with _ _ e3; omega
  have hmc : m ≤ c := by omega
  have hn63 : n ≤ 140737488351232 := by obtain ⟨_, _, e, _, h1, _⟩ := HR.out; omega
  have HM : Hid (∀ W, Below w.heap.size w W → RdB W (fun b => b < w.heap.size) (.slice A m c) (L.take m)) := Lib.hid fun W hb => by
    obtain ⟨A', c', e, h1, h2, h3⟩ := HR.out
    injection e with e1 e2 e3
    subst e1; subst e3
    refine ⟨A, c, by rw [hLt], by omega, by omega, fun h => ?_⟩
    obtain ⟨ad, e1, e2, e4⟩ := h3 (by omega)
    refine ⟨ad, e1, e2, fun j hj => ?_⟩
    rw [hb.cell (p := ad.add j) (by rw [block_add]; exact e2), e4 j (by omega)]
    simp [List.getD_eq_getElem?_getD, List.getElem?_take, show j < m from by omega]
  obtain ⟨M, hM⟩ : ∃ M, L.take m = M := ⟨_, rfl⟩
  rw [hM] at hLt HM
  have hto := fun w' => run_slice_to (P := Tryd.prog) 24 5 Tryd.underlying24 (by kernel_rfl) A n c m hmc w'
  refine callsIn_of_wp_marks Tryd.func4 rfl trivial ?_ rfl
  simp only [Tryd.ntmps4, List.size_toArray, List.length_cons, List.length_nil, Nat.reduceAdd, Nat.reduceSub, Array.replicate_succ, Array.replicate_zero, List.push_toArray, List.append_toArray, List.nil_append, List.cons_append]
  gi_wp2_with (first
    | (refine ⟨trivial, rfl, ?_⟩; gi_at_call 9; refine (known_any _ (HT.out.below ((Below.refl _ w).alloc (Nat.le_refl _) _))).mono ?_; rintro e w1 ⟨rfl, hb1⟩; have hw1 := ((Below.refl _ w).alloc (Nat.le_refl _) _).trans (hb1.mono (by simp)); have hs1 : RdB w1 (fun b => b < w.heap.size) (.slice A m c) M := HM.out _ hw1)
    | (refine ⟨trivial, rfl, ?_⟩; gi_at_call 12; refine (filled_any M (by omega) _).mono ?_; rintro e w2 ⟨rfl, hb2⟩)
    | (refine wpListIn_convert_run (fun _ => trivial) rfl 24 9 _ rfl _ rfl _ _ (str_rd hs1) ?_))
  obtain ⟨W3, hW3⟩ : ∃ W3, ((w2.alloc (Obj.cells #[Value.string { data := #[] }] 9)).alloc (Obj.cells #[Value.int IntKind.i64 0] 3)) = W3 := ⟨_, rfl⟩
  rw [hW3]
  obtain ⟨d, hd⟩ : ∃ d, m / 3 = d := ⟨_, rfl⟩
  have hdm : d ≤ m := by omega
  have hd1 : (m : Int) / 3 = (d : Int) := by omega
  have hd2 : (m : Int).tdiv 3 = (d : Int) := by rw [Int.tdiv_eq_ediv_of_nonneg (by omega)]; omega
  have hdw : IntKind.i64.wrap (d : Int) = (d : Int) := by rw [IntKind.wrap_i64]; omega
  have hdc : (d : Int) ≤ (c : Int) := by omega
  have hdm' : (d : Int) ≤ (m : Int) := by omega
  have hto2 := fun w' => run_slice_to (P := Tryd.prog) 24 5 Tryd.underlying24 (by kernel_rfl) A m c d (by omega) w'
  have hfr2 := fun w' => run_slice_from (P := Tryd.prog) 24 5 Tryd.underlying24 (by kernel_rfl) A m c d hdm w'
  clear hto
  have c3 : Blk W3 w.heap.size 3 #[Value.int IntKind.i64 stop] := by
    have := (((Blk.new w 3 #[Value.int IntKind.i64 stop]).below hb1 (by simp)).below hb2 (by have := hb1.size; simp at this; omega))
    rw [← hW3]; exact (this.alloc _).alloc _
  have c6 : Blk W3 w2.heap.size 9 #[Value.string { data := #[] }] := by rw [← hW3]; exact (Blk.new w2 _ _).alloc _
  have c7 : Blk W3 (w2.heap.size + 1) 3 #[Value.int IntKind.i64 0] := by rw [← hW3]; exact Blk.newAt _ _ (by simp) rfl
  have hz1 := hw1.size
  have hz2 := hb2.size
  have hz3 : W3.heap.size = w2.heap.size + 2 := by rw [← hW3]; simp
  have hz0 : w.heap.size < w1.heap.size := by have := hb1.size; simp at this; omega
  have hb3 : Below w.heap.size w W3 := by rw [← hW3]; exact (((hw1.trans (hb2.mono (by omega))).alloc (by omega) _).alloc (by simp; omega) _)
  obtain ⟨W4, hW4⟩ : ∃ W4, (W3.alloc (Obj.cells #[Value.slice A d c, Value.slice (cutA A c d) (m - d) (c - d)] 24)).drew = W4 := ⟨_, rfl⟩
  have c8 : Blk W4 W3.heap.size 24 #[Value.slice A d c, Value.slice (cutA A c d) (m - d) (c - d)] := by rw [← hW4]; exact (Blk.new W3 _ _).drew
  have hb4 : Below W3.heap.size W3 W4 := by rw [← hW4]; exact ((Below.refl _ W3).alloc (Nat.le_refl _) _).drew
  have hz4 : W4.heap.size = W3.heap.size + 1 := by rw [← hW4]; simp
  have hb04 : Below w.heap.size w W4 := hb3.trans (hb4.mono hb3.size)
  have hflat : ([M.take d, M.drop d] : List (List UInt8)).flatten = M := by simp
  have hrd4 : RdP W4 (fun b => b < W4.heap.size) (some ⟨W3.heap.size, 0, none⟩) [M.take d, M.drop d] := by
    have hs4 := HM.out W4 hb04
    obtain ⟨A', c', e, h1, h2, h3⟩ := hs4
    injection e with e1 e2 e3
    subst e1; subst e3
    have hlt : ∀ b, b < w.heap.size → b < W4.heap.size := fun b hb => by omega
    intro k hk
    have hk2 : k = 0 ∨ k = 1 := by simp at hk; omega
    rcases hk2 with rfl | rfl
    · refine ⟨_, Value.slice A d c, rfl, by show W3.heap.size < W4.heap.size; omega, by rw [add_zero_block, c8.cell]; rfl, A, c, by simp [hLt, Nat.min_eq_left hdm], by simp; omega, by simp; omega, fun h => ?_⟩
      obtain ⟨ad, e1, e2, e4⟩ := h3 (by rw [hLt]; simp at h; omega)
      refine ⟨ad, e1, hlt _ e2, fun j hj => ?_⟩
      rw [e4 j (by simp at hj; omega)]
      simp [List.getD_eq_getElem?_getD, List.getElem?_take, show j < d from by simp at hj; omega]
    · refine ⟨_, Value.slice (cutA A c d) (m - d) (c - d), rfl, by show W3.heap.size < W4.heap.size; omega, by rw [add_zero_block, c8.cell]; rfl, cutA A c d, c - d, by simp [hLt], by simp; omega, by simp; omega, fun h => ?_⟩
      obtain ⟨ad, e1, e2, e4⟩ := h3 (by rw [hLt]; simp at h; omega)
      subst e1
      have hcd : c ≠ d := by simp [hLt] at h; omega
      refine ⟨ad.add d, by simp [cutA, hcd], by rw [block_add]; exact hlt _ e2, fun j hj => ?_⟩
      rw [add_add, e4 (d + j) (by simp at hj; omega)]
      simp [List.getD_eq_getElem?_getD]
  have hBL := callsIn_wide.1 (Blocks_any (some ⟨W3.heap.size, 0, none⟩) 2 [M.take d, M.drop d] (by simp) (by rw [hflat]; omega) W4 hrd4)
  rw [hflat] at hBL
  have HBL := Lib.hid hBL
  clear hBL
  have HZ := Lib.hid (And.intro hz1 (And.intro hz2 (And.intro hz3 (And.intro hz0 hz4))))
  have HC := Lib.hid (And.intro c3 (And.intro c6 c7))
  clear hz1 hz2 hz3 hz0 hz4 c3 c6 c7 c8 hrd4 hb4 hb3 hb1 hb2 hw1 hs1
  refine wpIn_wide.2 ?_
  refine wp_region_still_tail 10 rfl (by kernel_rfl) ?_
  simp only [List.take_succ_cons, List.take_zero, List.drop_succ_cons, List.drop_zero]
  repeat still_step
  try refine wpStill_nil ?_
  change wpList _ _ _ _ _ W3.drew
  go_wp2_with (go_at_call 13; refine HBL.out.mono ?_; rintro e w5 ⟨Bp, A1, rfl, hb5, hBp, hcell, hrd5⟩)
  gi_wp2_with fail
  obtain ⟨hz1, hz2, hz3, hz0, hz4⟩ := HZ.out
  have hz5 := hb5.size
  have hb05 : Below w.heap.size w w5 := hb04.trans (hb5.mono (by omega))
  have hb35 : Below W3.heap.size W3 w5 := by
    have : Below W3.heap.size W3 W4 := by rw [← hW4]; exact ((Below.refl _ W3).alloc (Nat.le_refl _) _).drew
    exact this.trans (hb5.mono (by omega))
  have d3 := HC.out.1.below hb35 (by omega)
  have d6 := HC.out.2.1.below hb35 (by omega)
  have d7 := HC.out.2.2.below hb35 (by omega)
  have hBp5 : Bp < w5.heap.size := block_lt_of_cell hcell
  have HSEQ := Lib.hid (blocks_seq (fun b => b = w2.heap.size ∨ b = w2.heap.size + 1) Bp (some A1) 1 [M] (by simp) (by simp; omega) w5 (fun b hb => by rcases hb with rfl | rfl <;> omega) hcell (by omega) (fun k hk => by
    obtain ⟨ad, v, e1, e2, e3, A', c', e4, e5, e6, e7⟩ := hrd5 k hk
    exact ⟨ad, v, e1, ⟨e2.2, by omega⟩, e3, A', c', e4, e5, e6, fun h => by
      obtain ⟨ad', f1, f2, f3⟩ := e7 h
      exact ⟨ad', f1, ⟨f2.2, by omega⟩, f3⟩⟩))
  rw [show ([M] : List (List UInt8)).flatten = M from by simp] at HSEQ
  have HD0 := Lib.hid (And.intro d3 (And.intro d6 (And.intro d7 hb05)))
  have HSZ := Lib.hid (And.intro hz0 (And.intro hz1 (And.intro hz2 (And.intro hz3 (And.intro hz4 hz5)))))
  clear hrd5 hcell d3 d6 d7 hb05 hb35 hb5 hb04 hz1 hz2 hz3 hz4 hz5 hz0 HZ HC HBL
  refine wpIn_rangeFunc_C (gf := 28) (lb := #[.pointer (some ⟨Bp, 0, none⟩)]) rfl (enters_of Tryd.func28 (by kernel_rfl) rfl) HSEQ.out (fun _ => rfl)
    (fun pre W => Blk W w.heap.size 3 #[Value.int IntKind.i64 stop] ∧ Blk W w2.heap.size 9 #[Value.string ⟨(bytesOf pre).toArray⟩] ∧ Blk W (w2.heap.size + 1) 3 #[Value.int IntKind.i64 (pre.length : Int)] ∧ Below w.heap.size w W ∧ (stop ≤ 0 ∨ (pre.length : Int) < stop))
    (fun cd pre W => cd = Code.exit 0 ∧ Blk W w.heap.size 3 #[Value.int IntKind.i64 stop] ∧ Blk W w2.heap.size 9 #[Value.string ⟨(bytesOf pre).toArray⟩] ∧ Below w.heap.size w W ∧ (pre.length : Int) = stop)
    (fun s A B hs hb => by
      obtain ⟨y0, y1, y2, y3, y4, y5⟩ := HSZ.out
      exact ⟨hs.1.below hb (by omega), hs.2.1.below hb (by omega), hs.2.2.1.below hb (by omega), hs.2.2.2.1.trans (hb.mono (by omega)), hs.2.2.2.2⟩)
    (fun cd s A B hs hb => by
      obtain ⟨y0, y1, y2, y3, y4, y5⟩ := HSZ.out
      exact ⟨hs.1, hs.2.1.below hb (by omega), hs.2.2.1.below hb (by omega), hs.2.2.2.1.trans (hb.mono (by omega)), hs.2.2.2.2⟩)
    ⟨HD0.out.1, HD0.out.2.1, HD0.out.2.2.1, HD0.out.2.2.2, by simp; omega⟩
    (fun x a' W => ∃ Bx, w5.heap.size ≤ Bx ∧ Blk W Bx 34 (arr 64 fun i => bv (x i)) ∧ a' = { tmps := #[Value.slice A m c, Value.int IntKind.i64 stop, undef, Value.pointer (some { block := w.heap.size, off := 0 }), Value.bool false, Value.string { data := (filled M).toArray }, Value.pointer (some { block := w2.heap.size, off := 0 }), Value.pointer (some { block := w2.heap.size + 1, off := 0 }), Value.pointer (some ⟨Bx, 0, none⟩), Value.bool true, Value.bool false, Value.slice A n c, Value.slice A n c, Value.int IntKind.i64 ↑n, Value.int IntKind.i64 ↑m, Value.slice A m c, Value.slice A m c, Value.string { data := M.toArray }, Value.string { data := (filled M).toArray }, Value.slice A m c, Value.slice A m c, Value.int IntKind.i64 ↑m, Value.int IntKind.i64 ↑d, Value.slice A d c, Value.slice A m c, Value.slice A m c, Value.int IntKind.i64 ↑m, Value.int IntKind.i64 ↑d, Value.slice (cutA A c d) (m - d) (c - d), Value.slice (some { block := W3.heap.size, off := 0 }) 2 2, Value.func (Fn.func 28) #[] #[Value.pointer (some { block := Bp, off := 0 })], .agg (arr 64 fun i => bv (x i)), undef, undef, undef, undef, undef, undef, undef, undef, undef, undef, undef, undef, undef, undef, undef, undef, undef, undef, undef, undef, undef, undef, undef, undef, undef, undef, undef], defers := [] })
    (fun x a' W l o o' _ h1 h2 h3 => by
      obtain ⟨Bx, q1, q2, q3⟩ := h3
      exact ⟨Bx, q1, q2.putObj o' h1 h2, q3⟩) ?assign ?body ?done ?stop
  case assign =>
    intro l pre x W K hlt hpre hi hK
    have hB0 : Blk (W.alloc (.cells (Array.replicate 64 (bv 0)) 34)) W.heap.size 34 (Array.replicate 64 (bv 0)) := Blk.newAt _ _ rfl rfl
    have HI := Lib.hid hi
    clear hi
    gi_wp2_with (refine wpListIn_store_arrW (fun _ => trivial) rfl 34 _ _ rfl W.heap.size (arr 64 fun i => bv (x i)) rfl rfl 34 _ hB0 (by rw [arr_size]; kernel_rfl) (by rw [arr_size]; rfl) (arr_all_bv _ _) ?_; intro W5 hS5 hz5 hb5 _ _)
    have hbel : Below W.heap.size W W5 := ((Below.refl _ W).alloc (Nat.le_refl _) _).trans hb5
    have hi := HI.out
    exact hK _ _ (keepsFrom_of_below hbel) (.of_below hbel) ⟨hi.1.below hbel hi.1.lt, hi.2.1.below hbel hi.2.1.lt, hi.2.2.1.below hbel hi.2.2.1.lt, hi.2.2.2.1.trans (hbel.mono hi.2.2.2.1.size), hi.2.2.2.2⟩ ⟨W.heap.size, by omega, hS5, rfl⟩
  case body =>
    rintro l pre x a' W hl hlt hpre ⟨h3, h6, h7, hb, hst⟩ ⟨Bx, hBx, bX, rfl⟩
    obtain ⟨y0, y1, y2, y3, y4, y5⟩ := HSZ.out
    have hrX : RdB W.drew (fun _ => True) (.slice (some ⟨Bx, 0, none⟩) 64 64) (row64 x) := rdB_blk (bX.drew) (fun i hi => by simp [row64, List.getD_eq_getElem?_getD, hi]) (by simp [row64]) (by omega) (by omega) (by omega) trivial
    have hcv := str_rd hrX
    have hplen : pre.length ≤ 10 := by
      have := ((List.prefix_append pre [x]).trans hpre).length_le
      rw [allBlocks_length, hLt] at this
      omega
    have hno : ¬ (9223372036854775807 < (bytesOf pre).length + (row64 x).length) := by rw [bytesOf_length]; simp [row64]; omega
    have hcat : (({ data := (bytesOf pre).toArray } : ByteArray) ++ { data := (row64 x).toArray }) = ⟨(bytesOf (pre ++ [x])).toArray⟩ := by rw [bytesOf_snoc]; exact ba_app _ _
    have k6 := h6.cell 0
    have f6 := h6.frozen 0
    have k7 := h7.cell 0
    have f7 := h7.frozen 0
    have k3 := h3.cell 0
    have H6 := Lib.hid h6
    have H7 := Lib.hid h7
    have H3 := Lib.hid h3
    have HB := Lib.hid hb
    have HST := Lib.hid hst
    have HBX := Lib.hid bX
    clear h6 h7 h3 hb hst bX hrX
    gi_wp2_with fail
    gi_region_with (fail)
    all_goals (
      obtain ⟨W1, hW1⟩ : ∃ W1, (W.setCell { block := w2.heap.size, off := 0 } (Value.string { data := (bytesOf (pre ++ [x])).toArray })).drew = W1 := ⟨_, rfl⟩
      rw [hW1]
      have e3 : Blk W1 w.heap.size 3 #[Value.int IntKind.i64 stop] := by rw [← hW1]; exact (H3.out.far (by simp; omega) _).drew
      have e6 : Blk W1 w2.heap.size 9 #[Value.string { data := (bytesOf (pre ++ [x])).toArray }] := by rw [← hW1]; exact ((H6.out.store 0 _).same rfl).drew
      have e7 : Blk W1 (w2.heap.size + 1) 3 #[Value.int IntKind.i64 (pre.length : Int)] := by rw [← hW1]; exact (H7.out.far (by simp) _).drew
      have eb : Below w.heap.size w W1 := by rw [← hW1]; exact (HB.out.setCell (by simp; omega) _).drew
      have ek : Keep (fun b => b = w2.heap.size ∨ b = w2.heap.size + 1) W W1 := by rw [← hW1]; exact (Keep.setCell W _ _ (by simp)).trans (Keep.drew _)
      have ef : KeepsFrom w5.heap.size W W1 := by rw [← hW1]; exact keepsFrom_row H6.out (by simp [World.setCell]) (fun b hb => Below.heap_setCell _ _ _ b hb)
      clear hW1 k6 f6 k7 f7 k3 hcv
      have k7 := e7.cell 0
      have f7 := e7.frozen 0
      have k3 := e3.cell 0
      have E3 := Lib.hid e3
      have E6 := Lib.hid e6
      have E7 := Lib.hid e7
      have EB := Lib.hid eb
      have EK := Lib.hid ek
      have EF := Lib.hid ef
      clear e3 e6 e7 eb ek ef
      by_cases hs : (pre.length : Int) + 1 = stop
      · have hq : ((pre.length : Int) + 1 == stop) = true := by rw [beq_iff_eq]; exact hs
        clear hs
        gi_wp2
        refine ⟨keepsFrom_trans EF.out (keepsFrom_row E7.out (by simp [World.setCell]) (fun b hb => Below.heap_setCell _ _ _ b hb)), rfl, E3.out.far (by simp; omega) _, E6.out.far (by simp) _, EB.out.setCell (by simp; omega) _, ?_⟩
        rw [beq_iff_eq] at hq
        rw [List.length_append]
        simpa using hq
      · have hq : ((pre.length : Int) + 1 == stop) = false := by rw [beq_eq_false_iff_ne]; exact hs
        clear hs
        gi_wp2
        refine ⟨keepsFrom_trans EF.out (keepsFrom_row E7.out (by simp [World.setCell]) (fun b hb => Below.heap_setCell _ _ _ b hb)), EK.out.trans (Keep.setCell _ _ _ (by simp)), E3.out.far (by simp; omega) _, E6.out.far (by simp) _, ?_, EB.out.setCell (by simp; omega) _, ?_⟩
        · refine (E7.out.store 0 (.int .i64 ((pre.length : Int) + 1))).same ?_
          rw [List.length_append]
          simp
        · rw [beq_eq_false_iff_ne] at hq
          rw [List.length_append]
          have := HST.out
          simp
          omega)
  case done =>
    rintro D W hD ⟨h3, h6, h7, hb, hst⟩ hK
    obtain ⟨y0, y1, y2, y3, y4, y5⟩ := HSZ.out
    rw [bytesOf_all] at h6
    obtain ⟨nb, hnb⟩ : ∃ nb, (allBlocks M).length = nb := ⟨_, rfl⟩
    have hfl : (filled M).length = 64 * nb := by rw [filled_length, hnb]
    have hnb10 : nb ≤ 10 := by rw [← hnb, allBlocks_length, hLt]; omega
    have hnb11 : (nb : Int) ≤ 10 := by omega
    rw [hnb] at hst
    have k6 := h6.cell 0
    have k3 := h3.cell 0
    have hquo : (64 * (nb : Int)) / 64 = (nb : Int) := by omega
    have HB := Lib.hid hb
    have HD := Lib.hid hK
    clear h3 h6 h7 hb hK hnb
    by_cases h1 : (1 : Int) ≤ stop
    · have hc1 : decide ((1 : Int) ≤ stop) = true := by simpa using h1
      have hc2 : decide (stop < (nb : Int)) = false := by simp; omega
      clear hst hnb10
      gi_wp2
      refine ⟨by simp, .inl ⟨_, _, rfl, run_takeDeferred HD.out, ?_⟩⟩
      exact ⟨_, results_tmp rfl _ _ _, rfl, below_putObj HB.out _ (by omega)⟩
    · have hc1 : decide ((1 : Int) ≤ stop) = false := by simpa using h1
      clear hst hnb10
      gi_wp2
      refine ⟨by simp, .inl ⟨_, _, rfl, run_takeDeferred HD.out, ?_⟩⟩
      exact ⟨_, results_tmp rfl _ _ _, rfl, below_putObj HB.out _ (by omega)⟩
  case stop =>
    rintro D cd pre W hD hpre hne ⟨rfl, h3, h6, hb, hst⟩ hK
    obtain ⟨y0, y1, y2, y3, y4, y5⟩ := HSZ.out
    obtain ⟨nb, hnb⟩ : ∃ nb, (allBlocks M).length = nb := ⟨_, rfl⟩
    have hfl : (filled M).length = 64 * nb := by rw [filled_length, hnb]
    have hnb10 : nb ≤ 10 := by rw [← hnb, allBlocks_length, hLt]; omega
    have hnb11 : (nb : Int) ≤ 10 := by omega
    have hp1 : 1 ≤ pre.length := by cases pre with | nil => exact absurd rfl hne | cons a l => simp
    have hple : pre.length ≤ nb := by rw [← hnb]; exact hpre.length_le
    rw [bytesOf_pre M pre hpre] at h6
    obtain ⟨p, hp⟩ : ∃ p, pre.length = p := ⟨_, rfl⟩
    rw [hp] at h6 hst hp1 hple
    obtain rfl := hst
    have k6 := h6.cell 0
    have k3 := h3.cell 0
    have hquo : (64 * (nb : Int)) / 64 = (nb : Int) := by omega
    have hc1 : decide ((1 : Int) ≤ (p : Int)) = true := by simp; omega
    have HB := Lib.hid hb
    have HD := Lib.hid hK
    have HPN := Lib.hid hne
    clear h3 h6 hb hK hnb hp hne
    by_cases h1 : p < nb
    · have hc2 : decide ((p : Int) < (nb : Int)) = true := by simpa using h1
      have hw64 : IntKind.i64.wrap (64 * (p : Int)) = 64 * (p : Int) := by rw [IntKind.wrap_i64]; omega
      have hb1 : (64 * (p : Int)) ≤ 64 * (nb : Int) := by omega
      have hb0 : (0 : Int) ≤ 64 * (p : Int) := by omega
      have hbn : (64 * (p : Int)).toNat = 64 * p := by omega
      have hext : ByteArray.extract { data := (filled M).toArray } 0 (64 * p) = { data := (List.take (64 * p) (filled M)).toArray } := by
        apply ByteArray.ext
        simp
      gi_wp2
      refine wpIn_wide.2 ?_
      go_quiet (fail)
      gi_wp2
      refine ⟨by simp, .inl ⟨_, _, rfl, run_takeDeferred (show (W.drewN nq).heap[D]? = _ from HD.out), ?_⟩⟩
      exact ⟨_, results_tmp rfl _ _ _, rfl, below_putObj (below_drewN HB.out nq) _ (by omega)⟩
    · obtain rfl : p = nb := by omega
      have hc2 : decide ((p : Int) < (p : Int)) = false := by simp
      clear hnb10
      rw [← hfl, List.take_length] at k6
      gi_wp2
      refine ⟨by simp, .inl ⟨_, _, rfl, run_takeDeferred HD.out, ?_⟩⟩
      exact ⟨_, results_tmp rfl _ _ _, rfl, below_putObj HB.out _ (by omega)⟩
theorem blocks_law (A : Option Addr) (c : Nat) (L : List UInt8) (n : Nat) (hn : L.length = n) (stop : Int) (w : World) (hT : Tables w) (hr : RdB w (fun b => b < w.heap.size) (.slice A n c) L) :
    Calls Tryd.prog 4 #[.slice A n c, .int .i64 stop] w fun e w' => e = .returned (.bool true) ∧ Below w.heap.size w w' := callsIn_wide.1 (blocks_in A c L n hn stop w hT hr)
end Go.Proofs.YtghjdelijmlemaaDoor
