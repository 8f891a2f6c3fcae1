/-
  TreePeaks: for every size and every number of whole trees that are wanted, in whatever memory in which the tables lie. No condition.
-/
import Derived.Test.YtkkanaefngggoaaDoorTreePeaks
import Derived.Test.YtkkanaefngggoaaDoorTreeRefP
namespace Go.Proofs.YtkkanaefngggoaaDoor
open Go Go.RowKit Go.Shelf TreeM
attribute [local go_sem] Oper.semAt_some

set_option maxRecDepth 100000 in
set_option maxHeartbeats 1000000 in
theorem peaks_out (size most : Int) (h : size < 0 ∨ 1099511627776 < size) (w : World) (hT : Tables w) :
    CallsIn Fence.wide 0 Tryd.prog 4 #[.int .i64 size, .int .i64 most] w fun e w' => e = .returned (.bool true) ∧ Below w.heap.size w w' := by
  have hb0 : Below w.heap.size w ((w.alloc (.cells #[.int .i64 most] 3)).alloc (.cells #[.bool false] 4)) := ((Below.refl _ _).alloc (Nat.le_refl _) _).alloc (by simp) _
  have h4 : Blk ((w.alloc (.cells #[.int .i64 most] 3)).alloc (.cells #[.bool false] 4)) (w.heap.size + 1) 4 #[.bool false] := Blk.newAt _ _ (by simp) rfl
  have HGR := Lib.hid ((callsIn_wide (n := 0)).2 (grows_any _ (hT.below hb0)))
  have HB0 := Lib.hid hb0
  have H4 := Lib.hid h4
  clear hb0 h4 hT
  by_cases h0 : size < 0
  · have d0 : decide (size < 0) = true := decide_eq_true h0
    clear h
    refine callsIn_of_wp_marks Tryd.func4 rfl trivial ?_ rfl
    simp only [Tryd.ntmps4, List.size_toArray, List.length_cons, List.length_nil, Nat.reduceAdd, Nat.reduceSub, Array.replicate_succ, Array.replicate_zero, List.push_toArray, List.append_toArray, List.nil_append, List.cons_append]
    gi_wp2_with (refine ⟨trivial, rfl, ?_⟩; gi_at_call 17; refine HGR.out.mono ?_; rintro e W1 ⟨rfl, hb1⟩; have k4 := H4.out.below hb1 H4.out.lt; have c4 := k4.cell 0; have f4 := k4.frozen 0; have HB1 := Lib.hid (HB0.out.trans (hb1.mono HB0.out.size)); have K4 := Lib.hid k4; clear hb1 k4)
    exact ⟨_, results_one rfl _ _ ⟨w.heap.size + 1, 0, none⟩ (.bool true) rfl Tryd.underlying4 rfl ((K4.out.store 0 (.bool true)).cell 0), rfl, HB1.out.setCell (by simp) _⟩
  · have d0 : decide (size < 0) = false := decide_eq_false h0
    have d1 : decide (1099511627776 < size) = true := decide_eq_true (by omega)
    clear h
    refine callsIn_of_wp_marks Tryd.func4 rfl trivial ?_ rfl
    simp only [Tryd.ntmps4, List.size_toArray, List.length_cons, List.length_nil, Nat.reduceAdd, Nat.reduceSub, Array.replicate_succ, Array.replicate_zero, List.push_toArray, List.append_toArray, List.nil_append, List.cons_append]
    gi_wp2_with (refine ⟨trivial, rfl, ?_⟩; gi_at_call 17; refine HGR.out.mono ?_; rintro e W1 ⟨rfl, hb1⟩; have k4 := H4.out.below hb1 H4.out.lt; have c4 := k4.cell 0; have f4 := k4.frozen 0; have HB1 := Lib.hid (HB0.out.trans (hb1.mono HB0.out.size)); have K4 := Lib.hid k4; clear hb1 k4)
    exact ⟨_, results_one rfl _ _ ⟨w.heap.size + 1, 0, none⟩ (.bool true) rfl Tryd.underlying4 rfl ((K4.out.store 0 (.bool true)).cell 0), rfl, HB1.out.setCell (by simp) _⟩
set_option maxRecDepth 100000 in
set_option maxHeartbeats 1000000 in
theorem peaks_in (n : Nat) (hn : n ≤ 1099511627776) (most : Int) (w : World) (hT : Tables w) :
    CallsIn Fence.wide 0 Tryd.prog 4 #[.int .i64 (n : Int), .int .i64 most] w fun e w' => e = .returned (.bool true) ∧ Below w.heap.size w w' := by
  have d0 : decide ((n : Int) < 0) = false := decide_eq_false (by omega)
  have d1 : decide (1099511627776 < (n : Int)) = false := decide_eq_false (by omega)
  have hb0 : Below w.heap.size w ((w.alloc (.cells #[.int .i64 most] 3)).alloc (.cells #[.bool false] 4)) := ((Below.refl _ _).alloc (Nat.le_refl _) _).alloc (by simp) _
  have h3 : Blk ((w.alloc (.cells #[.int .i64 most] 3)).alloc (.cells #[.bool false] 4)) w.heap.size 3 #[.int .i64 most] := (Blk.new w _ _).alloc _
  have h4 : Blk ((w.alloc (.cells #[.int .i64 most] 3)).alloc (.cells #[.bool false] 4)) (w.heap.size + 1) 4 #[.bool false] := Blk.newAt _ _ (by simp) rfl
  have HGR := Lib.hid ((callsIn_wide (n := 0)).2 (grows_any _ (hT.below hb0)))
  obtain ⟨N, hN⟩ : ∃ N, (pk 0 n).length = N := ⟨_, rfl⟩
  have HPK : Hid (∀ W, CallsIn Fence.wide 0 Tryd.prog 28 #[.int .i64 (n : Int)] W fun e w' => ∃ Aa ca Ac cc, e = .returned (.tuple #[.slice Aa N ca, .slice Ac N cc]) ∧
      w'.ownsRow W.heap.size 3 1 (.slice Aa N ca) N (iv ((pk 0 n).map (·.1))) ∧ w'.ownsRow W.heap.size 3 1 (.slice Ac N cc) N (iv ((pk 0 n).map (·.2))) ∧ Below W.heap.size W w') := Lib.hid fun W => ((callsIn_wide (n := 0)).2 (refPeaks_any n hn W)).mono (by
    rintro e w' ⟨a, c, rfl, h1, h2, h3⟩
    rw [hN] at h1 h2
    obtain ⟨A1, c1, rfl, _⟩ := own_len h1
    obtain ⟨A2, c2, rfl, _⟩ := own_len h2
    exact ⟨A1, c1, A2, c2, rfl, h1, h2, h3⟩)
  have HB0 := Lib.hid hb0
  have H3 := Lib.hid h3
  have H4 := Lib.hid h4
  clear hb0 h3 h4 hT
  refine callsIn_of_wp_marks Tryd.func4 rfl trivial ?_ rfl
  simp only [Tryd.ntmps4, List.size_toArray, List.length_cons, List.length_nil, Nat.reduceAdd, Nat.reduceSub, Array.replicate_succ, Array.replicate_zero, List.push_toArray, List.append_toArray, List.nil_append, List.cons_append]
  gi_wp2_with (first
    | (refine ⟨trivial, rfl, ?_⟩; gi_at_call 17; refine HGR.out.mono ?_; rintro e W1 ⟨rfl, hb1⟩; have K3 := Lib.hid (H3.out.below hb1 H3.out.lt); have K4 := Lib.hid (H4.out.below hb1 H4.out.lt); have HB1 := Lib.hid (HB0.out.trans (hb1.mono HB0.out.size)); clear hb1)
    | (refine ⟨trivial, rfl, ?_⟩; gi_at_call 28; refine (HPK.out _).mono ?_; rintro e W2 ⟨Aa, ca, Ac, cc, rfl, hoa, hoc, hb2⟩; have L3 := Lib.hid (K3.out.below hb2 K3.out.lt); have L4 := Lib.hid (K4.out.below hb2 K4.out.lt); have HB2 := Lib.hid (HB1.out.trans (hb2.mono HB1.out.size)); have HOA := Lib.hid hoa; have HOC := Lib.hid hoc; clear hb2 hoa hoc)
    | (refine ⟨trivial, rfl, ?_⟩; gi_at_call 29; refine (peaks_any n _).mono ?_; rintro e W3 ⟨rfl, rfl⟩))
  obtain ⟨W3, hW3⟩ : ∃ W3, ((((W2.alloc (.cells #[.slice Aa N ca] 39)).alloc (.cells #[.slice Ac N cc] 39)).alloc (.cells #[.int .i64 0] 3)).alloc (.cells #[.int .i64 (n : Int)] 3)) = W3 := ⟨_, rfl⟩
  rw [hW3]
  have hb23 : Below W2.heap.size W2 W3 := by rw [← hW3]; exact ((((Below.refl _ _).alloc (Nat.le_refl _) _).alloc (by simp) _).alloc (by simp; omega) _).alloc (by simp; omega) _
  have hz3 : W3.heap.size = W2.heap.size + 4 := by rw [← hW3]; simp
  have b5 : Blk W3 W2.heap.size 39 #[.slice Aa N ca] := by rw [← hW3]; exact (((Blk.new W2 _ _).alloc _).alloc _).alloc _
  have b6 : Blk W3 (W2.heap.size + 1) 39 #[.slice Ac N cc] := by rw [← hW3]; exact ((Blk.newAt _ _ (by simp) rfl).alloc _).alloc _
  have b7 : Blk W3 (W2.heap.size + 1 + 1) 3 #[.int .i64 0] := by rw [← hW3]; exact (Blk.newAt _ _ (by simp) rfl).alloc _
  have b8 : Blk W3 (W2.heap.size + 1 + 1 + 1) 3 #[.int .i64 (n : Int)] := by rw [← hW3]; exact Blk.newAt _ _ (by simp) rfl
  have b3 := L3.out.below hb23 L3.out.lt
  have b4 := L4.out.below hb23 L4.out.lt
  have hz1 := HB1.out.size
  have hz2 := HB2.out.size
  have hb03 := HB2.out.trans (hb23.mono hz2)
  have h4lt := L4.out.lt
  have HOA3 : Hid (∀ W, Below W2.heap.size W2 W → W.ownsRow W1.heap.size 3 1 (.slice Aa N ca) N (iv ((pk 0 n).map (·.1)))) := Lib.hid fun W hb => Turn.own (Turn.of_below hb) HOA.out (fun i hi => by have := (HOA.out.lt i hi).2; omega)
  have HOC3 : Hid (∀ W, Below W2.heap.size W2 W → W.ownsRow W1.heap.size 3 1 (.slice Ac N cc) N (iv ((pk 0 n).map (·.2)))) := Lib.hid fun W hb => Turn.own (Turn.of_below hb) HOC.out (fun i hi => by have := (HOC.out.lt i hi).2; omega)
  have HZ := Lib.hid (And.intro hz3 (And.intro hz2 h4lt))
  have HNN := Lib.hid hN
  have hN64 : N ≤ 64 := by
    rw [← hN, pk_length]
    have := pop_le 41 n (by omega)
    omega
  clear hW3 hz1 hz2 h4lt HOA HOC L3 L4 hN
  refine wpIn_rangeFunc_C (gf := 50) (lb := #[.pointer (some ⟨W2.heap.size + 1 + 1 + 1, 0, none⟩)]) rfl (enters_of Tryd.func50 (by kernel_rfl) rfl)
    (peaks_seq (fun b => b = W2.heap.size + 1 + 1) (W2.heap.size + 1 + 1 + 1) n hn W3 (b8.cell 0) (by omega)) (fun _ => rfl)
    (fun pre W => Blk W w.heap.size 3 #[.int .i64 most] ∧ Blk W (w.heap.size + 1) 4 #[.bool false] ∧ Blk W W2.heap.size 39 #[.slice Aa N ca] ∧ Blk W (W2.heap.size + 1) 39 #[.slice Ac N cc] ∧ Blk W (W2.heap.size + 1 + 1) 3 #[.int .i64 (pre.length : Int)] ∧ Below W2.heap.size W2 W ∧ (most ≤ 0 ∨ (pre.length : Int) < most))
    (fun cd pre W => cd = Code.exit 0 ∧ Blk W w.heap.size 3 #[.int .i64 most] ∧ Blk W (w.heap.size + 1) 4 #[.bool false] ∧ Blk W W2.heap.size 39 #[.slice Aa N ca] ∧ Blk W (W2.heap.size + 1 + 1) 3 #[.int .i64 (pre.length : Int)] ∧ Below W2.heap.size W2 W ∧ (pre.length : Int) = most)
    (fun s A B hs hb => by
      obtain ⟨y0, y1, y2⟩ := HZ.out
      exact ⟨hs.1.below hb (by omega), hs.2.1.below hb (by omega), hs.2.2.1.below hb (by omega), hs.2.2.2.1.below hb (by omega), hs.2.2.2.2.1.below hb (by omega), hs.2.2.2.2.2.1.trans (hb.mono (by omega)), hs.2.2.2.2.2.2⟩)
    (fun cd s A B hs hb => by
      obtain ⟨y0, y1, y2⟩ := HZ.out
      exact ⟨hs.1, hs.2.1.below hb (by omega), hs.2.2.1.below hb (by omega), hs.2.2.2.1.below hb (by omega), hs.2.2.2.2.1.below hb (by omega), hs.2.2.2.2.2.1.trans (hb.mono (by omega)), hs.2.2.2.2.2.2⟩)
    ⟨b3, b4, b5, b6, b7, hb23, by simp; omega⟩
    (fun x a' W => a' = { tmps := #[.int .i64 (n : Int), .int .i64 most, undef, .pointer (some ⟨w.heap.size, 0, none⟩), .pointer (some ⟨w.heap.size + 1, 0, none⟩), .pointer (some ⟨W2.heap.size, 0, none⟩), .pointer (some ⟨W2.heap.size + 1, 0, none⟩), .pointer (some ⟨W2.heap.size + 1 + 1, 0, none⟩), .int .i64 (x.1 : Int), .int .i64 (x.2 : Int), .bool true, .bool false, .int .i64 (n : Int), .bool false, .bool false, .int .i64 (n : Int), .bool false, .bool false, .tuple #[.slice Aa N ca, .slice Ac N cc], .int .i64 (n : Int), .tuple #[.slice Aa N ca, .slice Ac N cc], .slice Aa N ca, .slice Ac N cc, .int .i64 (n : Int), .func (Fn.func 50) #[] #[.pointer (some ⟨W2.heap.size + 1 + 1 + 1, 0, none⟩)], .int .i64 (x.1 : Int), .int .i64 (x.2 : Int), undef, undef, undef, undef, undef, undef, undef, undef, undef, undef, undef, undef, undef, undef, undef, undef, undef, undef, undef, undef, undef, undef, undef, undef, undef, undef, undef, undef, undef, undef, undef, undef, undef, undef], defers := [] })
    (fun x a' W l o o' _ h1 h2 h3 => h3) ?assign ?body ?done ?stop
  case assign =>
    intro l pre x W K hlt hpre hi hK
    have HI := Lib.hid hi
    have HKK := Lib.hid hK
    clear hi hK b3 b4 b5 b6 b7 b8 hb03 hb23
    unfold encPk
    simp only [List.zip_toArray, List.zip_cons_cons, List.zip_nil_right, List.foldl_toArray, List.foldl_cons, List.foldl_nil, List.setIfInBounds_toArray, List.set_cons_zero, List.set_cons_succ]
    gi_wp2
    exact HKK.out _ _ (keepsFrom_of_below (Below.refl _ _)) (.refl _ _) HI.out rfl
  case body =>
    rintro l pre x a' W hl hlt hpre ⟨h3, h4, h5, h6, h7, hb, hst⟩ rfl
    obtain ⟨y0, y1, y2⟩ := HZ.out
    have hlen : pre.length < N := by
      have h1 := hpre.length_le
      rw [HNN.out] at h1
      simp at h1
      omega
    have hx : (pk 0 n)[pre.length]? = some x := by
      obtain ⟨r, hr⟩ := hpre
      rw [← hr]
      simp
    have ra : ∀ W', Below W2.heap.size W2 W' → ∃ Ga, Aa = some ⟨Ga, 0, none⟩ ∧ W'.cell? ⟨Ga, pre.length, none⟩ = some (.int .i64 (x.1 : Int)) := fun W' hb' => by
      have ho := HOA3.out W' hb'
      obtain ⟨G, rfl⟩ := own_addrN ho (by omega)
      refine ⟨G, rfl, ?_⟩
      rw [ho.cellAt pre.length (by omega)]
      simp [iv, hx]
    have rc : ∀ W', Below W2.heap.size W2 W' → ∃ Gc, Ac = some ⟨Gc, 0, none⟩ ∧ W'.cell? ⟨Gc, pre.length, none⟩ = some (.int .i64 (x.2 : Int)) := fun W' hb' => by
      have ho := HOC3.out W' hb'
      obtain ⟨G, rfl⟩ := own_addrN ho (by omega)
      refine ⟨G, rfl, ?_⟩
      rw [ho.cellAt pre.length (by omega)]
      simp [iv, hx]
    obtain ⟨Ga, rfl, ca1⟩ := ra W hb
    obtain ⟨Gc, rfl, cc1⟩ := rc W hb
    have k3 := h3.cell 0
    have k4 := h4.cell 0
    have k5 := h5.cell 0
    have k6 := h6.cell 0
    have k7 := h7.cell 0
    have f7 := h7.frozen 0
    have hsn : (pre ++ [x]).length = pre.length + 1 := by simp
    obtain ⟨q, hq⟩ : ∃ q, pre.length = q := ⟨_, rfl⟩
    rw [hq] at hlen ca1 cc1 k7 h7 hst hsn
    have hqN : (q : Int) < (N : Int) := by omega
    have hq0 : (0 : Int) ≤ (q : Int) := by omega
    have hq1 : (q : Int) ≤ 1000 := by omega
    have dge : decide ((N : Int) ≤ (q : Int)) = false := decide_eq_false (by omega)
    have HL := Lib.hid hlen
    have H3 := Lib.hid h3
    have H4 := Lib.hid h4
    have H5 := Lib.hid h5
    have H6 := Lib.hid h6
    have H7 := Lib.hid h7
    have HB := Lib.hid hb
    have HST := Lib.hid hst
    have HSN := Lib.hid hsn
    have HY := Lib.hid (And.intro y0 (And.intro y1 y2))
    clear h3 h4 h5 h6 h7 hb hst b3 b4 b5 b6 b7 b8 hb03 hb23 ra rc hx hpre hsn hlen hq y0 y1 y2
    have k3' := (H3.out.far (p := ⟨W2.heap.size + 1 + 1, 0, none⟩) (by have := HY.out; simp; omega) (.int .i64 ((q : Int) + 1))).cell 0
    have k7' := (H7.out.store 0 (.int .i64 ((q : Int) + 1))).cell 0
    by_cases hs : (q : Int) + 1 = most
    · have hq : ((q : Int) + 1 == most) = true := by rw [beq_iff_eq]; exact hs
      have HS := Lib.hid hs
      clear hs
      gi_wp2
      obtain ⟨y0, y1, y2⟩ := HY.out
      refine ⟨keepsFrom_row H7.out (by simp [World.setCell]) (fun b hb => Below.heap_setCell _ _ _ b hb), rfl, H3.out.far (by dsimp only; omega) _, H4.out.far (by dsimp only; omega) _, H5.out.far (by dsimp only; omega) _, ?_, HB.out.setCell (by simp; omega) _, ?_⟩
      · rw [HSN.out]
        exact (H7.out.store 0 (.int .i64 ((q : Int) + 1))).same (by simp)
      · rw [HSN.out]
        have := HS.out
        omega
    · have hq : ((q : Int) + 1 == most) = false := by rw [beq_eq_false_iff_ne]; exact hs
      have HS := Lib.hid hs
      clear hs
      gi_wp2
      obtain ⟨y0, y1, y2⟩ := HY.out
      refine ⟨keepsFrom_row H7.out (by simp [World.setCell]) (fun b hb => Below.heap_setCell _ _ _ b hb), Keep.setCell _ _ _ rfl, H3.out.far (by dsimp only; omega) _, H4.out.far (by dsimp only; omega) _, H5.out.far (by dsimp only; omega) _, H6.out.far (by dsimp only; omega) _, ?_, HB.out.setCell (by simp; omega) _, ?_⟩
      · rw [HSN.out]
        exact (H7.out.store 0 (.int .i64 ((q : Int) + 1))).same (by simp)
      · rw [HSN.out]
        have := HS.out
        have := HST.out
        omega
  case done =>
    rintro E W hD ⟨h3, h4, h5, h6, h7, hb, hst⟩ hK
    rw [HNN.out] at h7
    have k5 := h5.cell 0
    have k7 := h7.cell 0
    have k4 := h4.cell 0
    have f4 := h4.frozen 0
    have HB := Lib.hid hb
    have HD := Lib.hid hK
    have H4 := Lib.hid h4
    clear h3 h4 h5 h6 h7 hb hst hK b3 b4 b5 b6 b7 b8 hb03 hb23
    gi_wp2
    have r4 := H4.out.store 0 (.bool true)
    have hD4 : (W.setCell ⟨w.heap.size + 1, 0, none⟩ (.bool true)).heap[E]? = some (.deferred (some [])) := (Below.heap_setCell W ⟨w.heap.size + 1, 0, none⟩ _ E (by have := HZ.out; show E ≠ w.heap.size + 1; omega)).trans HD.out
    refine ⟨by simp, .inl ⟨_, _, rfl, run_takeDeferred hD4, ?_⟩⟩
    refine ⟨_, results_one rfl _ _ ⟨w.heap.size + 1, 0, none⟩ (.bool true) rfl Tryd.underlying4 rfl ((r4.putObj _ hD4 rfl).cell 0), rfl, ?_⟩
    exact below_putObj ((HB2.out.trans (HB.out.mono HB2.out.size)).setCell (by simp) _) _ (by have := HZ.out; omega)
  case stop =>
    rintro E cd pre W hD hpre hne ⟨rfl, h3, h4, h5, h7, hb, hst⟩ hK
    have hle : pre.length ≤ N := by
      have h1 := hpre.length_le
      rwa [HNN.out] at h1
    obtain ⟨q, hq⟩ : ∃ q, pre.length = q := ⟨_, rfl⟩
    rw [hq] at hle h7 hst
    obtain rfl := hst
    have k3 := h3.cell 0
    have k5 := h5.cell 0
    have k7 := h7.cell 0
    have k4 := h4.cell 0
    have f4 := h4.frozen 0
    have HB := Lib.hid hb
    have HD := Lib.hid hK
    have H4 := Lib.hid h4
    clear h3 h4 h5 h7 hb hK b3 b4 b5 b6 b7 b8 hb03 hb23 hpre hne hq
    by_cases he : q = N
    · have d5 : ((q : Int) == (N : Int)) = true := by rw [beq_iff_eq, he]
      have HE := Lib.hid he
      clear he
      gi_wp2
      have r4 := H4.out.store 0 (.bool true)
      have hD4 : (W.setCell ⟨w.heap.size + 1, 0, none⟩ (.bool true)).heap[E]? = some (.deferred (some [])) := (Below.heap_setCell W ⟨w.heap.size + 1, 0, none⟩ _ E (by have := HZ.out; show E ≠ w.heap.size + 1; omega)).trans HD.out
      refine ⟨by simp, .inl ⟨_, _, rfl, run_takeDeferred hD4, ?_⟩⟩
      refine ⟨_, results_one rfl _ _ ⟨w.heap.size + 1, 0, none⟩ (.bool true) rfl Tryd.underlying4 rfl ((r4.putObj _ hD4 rfl).cell 0), rfl, ?_⟩
      exact below_putObj ((HB2.out.trans (HB.out.mono HB2.out.size)).setCell (by simp) _) _ (by have := HZ.out; omega)
    · have d5 : ((q : Int) == (N : Int)) = false := by rw [beq_eq_false_iff_ne]; omega
      have HE := Lib.hid he
      clear he
      gi_wp2
      have r4 := H4.out.store 0 (.bool true)
      have hD4 : (W.setCell ⟨w.heap.size + 1, 0, none⟩ (.bool true)).heap[E]? = some (.deferred (some [])) := (Below.heap_setCell W ⟨w.heap.size + 1, 0, none⟩ _ E (by have := HZ.out; show E ≠ w.heap.size + 1; omega)).trans HD.out
      refine ⟨by simp, .inl ⟨_, _, rfl, run_takeDeferred hD4, ?_⟩⟩
      refine ⟨_, results_one rfl _ _ ⟨w.heap.size + 1, 0, none⟩ (.bool true) rfl Tryd.underlying4 rfl ((r4.putObj _ hD4 rfl).cell 0), rfl, ?_⟩
      exact below_putObj ((HB2.out.trans (HB.out.mono HB2.out.size)).setCell (by simp) _) _ (by have := HZ.out; omega)
theorem peaks_law (size most : Int) (w : World) (hT : Tables w) :
    Calls Tryd.prog 4 #[.int .i64 size, .int .i64 most] w fun e w' => e = .returned (.bool true) ∧ Below w.heap.size w w' := by
  by_cases h : size < 0 ∨ 1099511627776 < size
  · exact callsIn_wide.1 (peaks_out size most h w hT)
  · obtain ⟨n, rfl⟩ := Int.eq_ofNat_of_zero_le (show 0 ≤ size by omega)
    exact callsIn_wide.1 (peaks_in n (by omega) most w hT)
end Go.Proofs.YtkkanaefngggoaaDoor
