/-
  SumCounts, the walk: for every number, in whatever memory in which the tables read as they are laid, the call returns true; what lay there lies as it lay.
-/
import Derived.Test.YtghjdelijmlemaaDoorLawKnown
import Derived.Test.YtghjdelijmlemaaDoorConcat
namespace Go.Proofs.YtghjdelijmlemaaDoor
open Go Go.RowKit Go.Shelf
attribute [local go_sem] Oper.semAt_some

theorem allBlocks_length (L : List UInt8) : (allBlocks L).length = (L.length + 9 + 63) / 64 := by
  unfold allBlocks fulls lasts endBlocks
  rw [List.length_append, List.length_map, List.length_range]
  split <;> simp <;> omega

theorem run_make_bytes (n : Nat) (hn : n ≤ 1099511627776) (w : World) : (Instr.makeSlice 24 (.int .i64 (n : Int)) (.int .i64 (n : Int))).run Tryd.prog w = .ok (.slice (some ⟨w.heap.size, 0, none⟩) n n) (w.alloc (.cells (arr n fun _ => bv 0) 5)) := by
  obtain ⟨i0, hi, hz0, hz1, hz2⟩ := info_parts info_u8
  have h := run_make (P := Tryd.prog) w 24 5 i0 (.int .u8 0) Tryd.underlying24 hi hz0 .i64 .i64 n n (by omega) (Int.le_refl _) (by rw [hz2]; omega) (by omega)
  simp only [Int.toNat_natCast] at h
  rw [h]
  have e : madeCells (Value.int .u8 0).cells (n * i0.size) = arr n fun _ => bv 0 := by
    rw [hz1, Nat.mul_one]
    refine arr_of n _ _ (by simp [size_madeCells]) (fun i hi => ?_)
    have := congrArg (fun l : List Value => l[i]?) (toList_madeCells_one (Value.int .u8 0) n)
    simp only [Array.getElem?_toList] at this
    show (madeCells #[Value.int .u8 0] n)[i]? = _
    rw [this]
    simp [hi]
    rfl
  rw [e]

set_option maxRecDepth 100000 in
set_option maxHeartbeats 1000000 in
theorem counts_in (n : Nat) (hn : n ≤ 2000) (w : World) (hT : Tables w) : CallsIn Fence.wide 0 Tryd.prog 8 #[.int .i64 (n : Int)] w fun e w' => e = .returned (.bool true) ∧ Below w.heap.size w w' := by
  have HT := Lib.hid hT
  clear hT
  have hmk := fun w' => run_make_bytes n (by omega) w'
  have h1 : decide ((n : Int) < 0) = false := by simp
  have h2 : decide ((2000 : Int) < (n : Int)) = false := by simp; omega
  refine callsIn_of_wp_marks Tryd.func8 rfl trivial ?_ rfl
  simp only [Tryd.ntmps8, List.size_toArray, List.length_cons, List.length_nil, Nat.reduceAdd, Nat.reduceSub, Array.replicate_succ, Array.replicate_zero, List.push_toArray, List.append_toArray, List.nil_append, List.cons_append]
  gi_wp2_with (first
    | (refine ⟨trivial, rfl, ?_⟩; gi_at_call 9; refine (known_any w HT.out).mono ?_; rintro e w1 ⟨rfl, hb1⟩))
  obtain ⟨W3, hW3⟩ : ∃ W3, ((w1.alloc (Obj.cells #[Value.int IntKind.i64 0] 3)).alloc (Obj.cells (arr n fun _ => bv 0) 5)).alloc (Obj.cells #[Value.slice (some ⟨w1.heap.size + 1, 0, none⟩) n n] 24) = W3 := ⟨_, rfl⟩
  have c0 : Blk W3 w1.heap.size 3 #[Value.int IntKind.i64 0] := by rw [← hW3]; exact ((Blk.new w1 _ _).alloc _).alloc _
  have c1 : Blk W3 (w1.heap.size + 1) 5 (arr n fun _ => bv 0) := by rw [← hW3]; exact (Blk.newAt _ _ (by simp) rfl).alloc _
  have c2 : Blk W3 (w1.heap.size + 1 + 1) 24 #[Value.slice (some ⟨w1.heap.size + 1, 0, none⟩) n n] := by rw [← hW3]; exact Blk.newAt _ _ (by simp) rfl
  have hb3 : Below w.heap.size w W3 := by rw [← hW3]; exact ((hb1.alloc hb1.size _).alloc (by simp; have := hb1.size; omega) _).alloc (by simp; have := hb1.size; omega) _
  have hz3 : W3.heap.size = w1.heap.size + 3 := by rw [← hW3]; simp
  have hps : ([List.replicate n (0 : UInt8)] : List (List UInt8)).flatten.length = n := by simp
  have hrd : RdP W3 (fun b => b < W3.heap.size) (some ⟨w1.heap.size + 1 + 1, 0, none⟩) [List.replicate n 0] := fun k hk => by
    obtain rfl : k = 0 := by simp at hk; omega
    exact ⟨_, _, rfl, by simp; omega, by rw [add_zero_block, c2.cell]; rfl, rdB_blk (n := n) c1 (fun i hi => by simp [List.getD_eq_getElem?_getD, hi]) (by simp) (Nat.le_refl _) (Nat.le_refl _) (by omega) (by omega)⟩
  have HBL := Lib.hid (Blocks_any (some ⟨w1.heap.size + 1 + 1, 0, none⟩) 1 [List.replicate n 0] (by simp) (by rw [hps]; omega) W3 hrd)
  rw [hW3]
  clear hW3 c1 c2 hrd hmk
  refine ⟨trivial, rfl, HBL.out.mono ?_⟩
  rintro e w4 ⟨Bp, A1, rfl, hb4, hBp, hcell, hrd4⟩
  have c4 : Blk w4 w1.heap.size 3 #[Value.int IntKind.i64 0] := c0.below hb4 (by omega)
  have hb04 : Below w.heap.size w w4 := hb3.trans (hb4.mono hb3.size)
  have hsz4 := hb4.size
  have hBp4 : Bp < w4.heap.size := block_lt_of_cell hcell
  have HN : Hid (∀ pre : List (Nat → UInt8), pre <+: allBlocks ([[List.replicate n (0 : UInt8)].flatten] : List (List UInt8)).flatten → pre.length ≤ (n + 9 + 63) / 64) := Lib.hid fun pre hp => by
    have := hp.length_le
    rw [allBlocks_length] at this
    simpa using this
  have HNX : Hid ((allBlocks ([[List.replicate n (0 : UInt8)].flatten] : List (List UInt8)).flatten).length = (n + 9 + 63) / 64) := Lib.hid (by rw [allBlocks_length]; simp)
  have HSEQ := Lib.hid (blocks_seq (fun b => b = w1.heap.size) Bp (some A1) 1 [[List.replicate n (0 : UInt8)].flatten] (by simp) (by simp; omega) w4 (fun b hb => by subst hb; omega) hcell (by omega) (fun k hk => by
    obtain ⟨ad, v, e1, e2, e3, A, c, e4, e5, e6, e7⟩ := hrd4 k hk
    exact ⟨ad, v, e1, ⟨e2.2, by omega⟩, e3, A, c, e4, e5, e6, fun h => by
      obtain ⟨ad', f1, f2, f3⟩ := e7 h
      exact ⟨ad', f1, ⟨f2.2, by omega⟩, f3⟩⟩))
  clear hrd4 hcell HBL hps c0 hb3 hb4
  gi_wp2_with fail
  generalize ([[List.replicate n (0 : UInt8)].flatten] : List (List UInt8)).flatten = L at HN HNX HSEQ
  refine wpIn_rangeFunc_C (gf := 28) (lb := #[.pointer (some ⟨Bp, 0, none⟩)]) rfl (enters_of Tryd.func28 (by kernel_rfl) rfl) HSEQ.out (fun _ => rfl)
    (fun pre W => Blk W w1.heap.size 3 #[Value.int IntKind.i64 (pre.length : Int)] ∧ Below w.heap.size w W) (fun _ _ _ => False)
    (fun s A B hs hb => ⟨hs.1.below hb (by omega), hs.2.trans (hb.mono (by have := hb1.size; omega))⟩) (fun _ _ _ _ hs _ => hs) ⟨c4, hb04⟩
    (fun x a' _ => a' = { tmps := #[Value.int IntKind.i64 ↑n, undef, Value.bool false, Value.pointer (some { block := w1.heap.size, off := 0 }), Value.bool true, Value.bool false, Value.int IntKind.i64 ↑n, Value.bool false, Value.bool false,
          Value.int IntKind.i64 ↑n, Value.bool false, Value.bool false, Value.int IntKind.i64 ↑n, Value.slice (some { block := w1.heap.size + 1, off := 0 }) n n, Value.slice (some { block := w1.heap.size + 1 + 1, off := 0 }) 1 1,
          Value.func (Fn.func 28) #[] #[Value.pointer (some { block := Bp, off := 0 })], .agg (arr 64 fun i => bv (x i)), undef, undef, undef, undef, undef, undef, undef, undef], defers := [] })
    (fun _ _ _ _ _ _ _ _ _ h => h) ?assign ?body ?done ?stop
  case assign =>
    intro l pre x W K hlt hpre hi hK
    clear c4 hb04
    gi_wp2
    exact hK _ _ (keepsFrom_of_below (Below.refl _ _)) (.refl _ _) hi (by simp [encB])
  case body =>
    rintro l pre x a' W hl hlt hpre ⟨hc, hb⟩ rfl
    have hcc := hc.cell 0
    have hcf := hc.frozen 0
    have hm : pre.length ≤ 2000 := by
      have := HN.out _ ((List.prefix_append pre [x]).trans hpre)
      omega
    have HCC := Lib.hid hc
    have HB := Lib.hid hb
    have hw1 := hb1.size
    clear c4 hb04 hc hb
    gi_wp2
    refine ⟨keepsFrom_row HCC.out (by simp [World.setCell]) (fun b hb => Below.heap_setCell _ _ _ b hb), Keep.setCell _ _ _ rfl, ?_, HB.out.setCell (by show w.heap.size ≤ w1.heap.size; omega) _⟩
    have := HCC.out.store 0 (.int .i64 ((pre.length : Int) + 1))
    refine this.same ?_
    rw [List.length_append]
    simp
  case done =>
    rintro D W hD ⟨hc, hb⟩ hK
    rw [HNX.out] at hc
    have hcc := hc.cell 0
    have hq : ((((n + 9 + 63) / 64 : Nat) : Int) == ((n : Int) + 9 + 63) / 64) = true := by
      rw [beq_iff_eq]; omega
    have HB := Lib.hid hb
    have HD := Lib.hid hK
    generalize (n + 9 + 63) / 64 = q at *
    clear c4 hb04 hc hb hK
    gi_wp2
    refine ⟨by simp, .inl ⟨_, _, rfl, run_takeDeferred HD.out, ?_⟩⟩
    exact ⟨_, results_tmp rfl _ _ _, rfl, below_putObj HB.out _ (by have := hb1.size; omega)⟩
  case stop =>
    rintro D c pre W _ _ _ h _
    exact h.elim

set_option maxRecDepth 100000 in
set_option maxHeartbeats 1000000 in
theorem counts_out (n : Int) (hn : n < 0 ∨ 2000 < n) (w : World) (hT : Tables w) : CallsIn Fence.wide 0 Tryd.prog 8 #[.int .i64 n] w fun e w' => e = .returned (.bool true) ∧ Below w.heap.size w w' := by
  have HT := Lib.hid hT
  clear hT
  by_cases h0 : n < 0
  · have h1 : decide (n < 0) = true := by simpa using h0
    refine callsIn_of_wp Tryd.func8 rfl trivial ?_ rfl
    simp only [Tryd.ntmps8, List.size_toArray, List.length_cons, List.length_nil, Nat.reduceAdd, Nat.reduceSub, Array.replicate_succ, Array.replicate_zero, List.push_toArray, List.append_toArray, List.nil_append, List.cons_append]
    gi_wp2_with (refine ⟨trivial, rfl, ?_⟩; gi_at_call 9; refine (known_any w HT.out).mono ?_; rintro e w1 ⟨rfl, hb1⟩)
    go_ret
    exact ⟨rfl, hb1⟩
  · have h1 : decide (n < 0) = false := by simpa using h0
    have h2 : decide ((2000 : Int) < n) = true := by simp; omega
    refine callsIn_of_wp Tryd.func8 rfl trivial ?_ rfl
    simp only [Tryd.ntmps8, List.size_toArray, List.length_cons, List.length_nil, Nat.reduceAdd, Nat.reduceSub, Array.replicate_succ, Array.replicate_zero, List.push_toArray, List.append_toArray, List.nil_append, List.cons_append]
    gi_wp2_with (refine ⟨trivial, rfl, ?_⟩; gi_at_call 9; refine (known_any w HT.out).mono ?_; rintro e w1 ⟨rfl, hb1⟩)
    go_ret
    exact ⟨rfl, hb1⟩

theorem counts_any (n : Int) (w : World) (hT : Tables w) : Calls Tryd.prog 8 #[.int .i64 n] w fun e w' => e = .returned (.bool true) ∧ Below w.heap.size w w' := by
  refine (callsIn_wide (n := 0)).1 ?_
  by_cases h : 0 ≤ n ∧ n ≤ 2000
  · obtain ⟨k, rfl⟩ := Int.eq_ofNat_of_zero_le h.1
    exact counts_in k (by omega) w hT
  · exact counts_out n (by omega) w hT
end Go.Proofs.YtghjdelijmlemaaDoor
