/-
  The reference's sum of a string: the standard's, for every string of at most 2^40 bytes, in whatever memory.
-/
import Derived.Test.YtkkanaefngggoaaDoorRefA
import Derived.Test.YtkkanaefngggoaaDoorRefParts
import Derived.Test.YtkkanaefngggoaaDoorFilledBlkT
import Derived.Deep.AppendLies
namespace Go.Proofs.YtkkanaefngggoaaDoor
open Go Go.RowKit

/-- What stands between two blocks. -/
def Base (r : Nat) (w wr : World) (gk gh : Nat) (s : Nat → W32) : Prop :=
  Blk wr gk 100 (arr 64 fun i => u6 (kAt i)) ∧ Blk wr gh 100 (arr 8 fun i => u6 (s i)) ∧ Blk wr r 30 (arr 32 fun _ => bv 0) ∧ Below r w wr ∧ r < gk ∧ gk < gh
theorem Base.drew {r : Nat} {w wr : World} {gk gh : Nat} {s : Nat → W32} (h : Base r w wr gk gh s) : Base r w wr.drew gk gh s := ⟨h.1, h.2.1, h.2.2.1, h.2.2.2.1.drew, h.2.2.2.2⟩
/-- New blocks, and writes to new blocks alone. -/
theorem Base.grown {r : Nat} {w wr w' : World} {gk gh : Nat} {s : Nat → W32} (h : Base r w wr gk gh s) {row : Option Nat} (hg : wr.grownBy w' row) (hrow : ∀ x, row = some x → wr.heap.size ≤ x) : Base r w w' gk gh s := by
  obtain ⟨h1, h2, h3, h4, h5, h6⟩ := h
  have nb : ∀ b, b < wr.heap.size → some b ≠ row := fun b hb e => by have := hrow b e.symm; omega
  exact ⟨h1.grown hg (nb _ h1.lt), h2.grown hg (nb _ h2.lt), h3.grown hg (nb _ h3.lt), h4.grown hg (Nat.le_trans (Nat.le_of_lt h3.lt) (Nat.le_refl _)) (fun x hx => by have := hrow x hx; have := h3.lt; omega), h5, h6⟩

theorem wRow_0 (b : Nat → UInt8) : (arr 64 fun _ => Value.int .u64 0) = wRow b 0 0 := arr_congr fun i _ => by
  by_cases h : i = 0
  · subst h; simp [part]
  · simp [h]
theorem hRow_0 (s : Nat → W32) (t : St) : (arr 8 fun i => u6 (s i)) = hRow s t 0 := arr_congr fun i _ => by simp
theorem hRow_8 (s : Nat → W32) (t : St) : hRow s t 8 = arr 8 fun i => u6 (ad (s i) (t.get i)) := arr_congr fun i hi => by simp [hi]
theorem info_u64 : (Tryd.prog.info? 100).map (fun i => (i.zero, i.size, i.bytes)) = some (some (.int .u64 0), 1, 8) := by kernel_rfl
theorem run_make_words (w : World) : (Instr.makeSlice 98 (.int .i64 64) (.int .i64 64)).run Tryd.prog w = .ok (.slice (some ⟨w.heap.size, 0, none⟩) 64 64) (w.alloc (.cells (arr 64 fun _ => .int .u64 0) 100)) := by
  obtain ⟨i0, hi, hz0, hz1, hz2⟩ := info_parts info_u64
  have h := run_make (P := Tryd.prog) w 98 100 i0 (.int .u64 0) Tryd.underlying98 hi hz0 .i64 .i64 64 64 (by omega) (Int.le_refl _) (by rw [hz2]; omega) (by omega)
  rw [show Int.toNat 64 = 64 from rfl, hz1] at h
  rw [h]
  have e : madeCells (Value.int .u64 0).cells (64 * 1) = arr 64 fun _ => .int .u64 0 := by kernel_rfl
  rw [e]

def InvB (r gk gh : Nat) (S : ByteArray) (B : List (Nat → UInt8)) (W0 : World) (n : Nat) (f : Nat → Value) (w : World) : Prop :=
  ∃ j, j + n = B.length ∧ Loc f r gk gh S j ∧ Base r W0 w gk gh (shaSt (B.take j))

set_option maxRecDepth 1000000 in
set_option maxHeartbeats 2000000 in
theorem roundB (Q : Exit → Act → World → Prop) (f : Nat → Value) (r gk gh : Nat) (S : ByteArray) (B : List (Nat → UInt8)) (W0 w : World) (hnb : B.length ≤ 17179869190) (hS : S.size = 64 * B.length)
    (hSi : ∀ j i : Nat, j < B.length → i < 64 → ∀ x : Int, x = ((64 * j + i : Nat) : Int) → ∀ w', (Instr.index 9 (.string S) (.int .i64 x)).run Tryd.prog w' = .ok (bv ((B.getD j (fun _ => 0)) i)) w')
    (n j : Nat) (hj : j + n = B.length) (hlt : j < B.length) (h2 : Loc f r gk gh S j) (hB : Base r W0 w gk gh (shaSt (B.take j))) :
    (refLoop 0).wp Tryd.prog (Exit.then (Next 272 (InvB r gk gh S B W0) n) Q) ⟨arr 272 f, []⟩ w := by
  obtain ⟨h2, h3, h4, h5, h6, h7⟩ := h2
  rw [lit272, h2, h3, h4, h5, h6, h7]
  clear h2 h3 h4 h5 h6 h7
  obtain ⟨nb, hn⟩ : ∃ nb, B.length = nb := ⟨_, rfl⟩
  rw [hn] at hnb hS hj hlt
  have HS := Lib.hid hSi
  have HB := Lib.hid hB
  have HN := Lib.hid hn
  have hSz : (S.size : Int) = 64 * (nb : Int) := by omega
  have hlt2 : 64 * (j : Int) < (S.size : Int) := by omega
  have hj0 : (0 : Int) ≤ (j : Int) := by omega
  have hjm : (j : Int) ≤ 17179869190 := by omega
  clear hS hSi hB hn hSz
  conv => arg 2; whnf
  have l2 : decide (64 * (j : Int) < (S.size : Int)) = true := by simpa using hlt2
  have hmk := fun w' => run_make_words w'
  go_wp2
  clear hmk
  obtain ⟨b, hbb⟩ : ∃ b, B.getD j (fun _ => 0) = b := ⟨_, rfl⟩
  have HSj : Hid (∀ i, i < 64 → ∀ x : Int, x = ((64 * j + i : Nat) : Int) → ∀ w', (Instr.index 9 (.string S) (.int .i64 x)).run Tryd.prog w' = .ok (bv (b i)) w') := Lib.hid fun i hi x hx w' => by
    rw [← hbb]; exact HS.out j i (by rw [HN.out]; exact hlt) hi x hx w'
  have HBB := Lib.hid hbb
  clear hbb
  refine loop_at 272 rfl (loopW _ _ r gk gh S j w.heap.size b _ (by omega) HSj.out ⟨⟨rfl, rfl, rfl, rfl, rfl, rfl⟩, rfl, 0, rfl, rfl, Blk.newAt _ _ rfl (wRow_0 b), World.grownBy.refl _ _⟩ ?_)
  rintro f' w1 ⟨⟨h2, h3, h4, h5, h6, h7⟩, h8, k, hk, h9, hBw, hG⟩
  obtain rfl : k = 64 := by omega
  rw [lit272 f', h2, h3, h4, h5, h6, h7, h8, h9]
  clear h2 h3 h4 h5 h6 h7 h8 h9
  have HW1 := Lib.hid hBw
  have HG1 := Lib.hid hG
  clear hBw hG
  have hG1 : w.grownBy w1 (some w.heap.size) := (World.grownBy_alloc w _ _).trans HG1.out
  have hB1 : Base r W0 w1 gk gh (shaSt (B.take j)) := HB.out.grown hG1 (fun x hx => by cases hx; exact Nat.le_refl _)
  have HB1 := Lib.hid hB1
  clear HG1 HB hG1
  obtain ⟨s, hs⟩ : ∃ s, shaSt (B.take j) = s := ⟨_, rfl⟩
  have HSS := Lib.hid hs
  rw [hs] at hB1 HB1
  clear hs
  have hghl := hB1.2.1.lt
  obtain ⟨news, hnews⟩ : ∃ news, (List.range 8).map (fun i => u6 (s i)) = news := ⟨_, rfl⟩
  have hnl : news.length = 8 * 1 := by rw [← hnews]; simp
  have hnc : Hid (∀ (i : Nat) u, news[i]? = some u → (w1.alloc (.cells #[] 100)).cell? ((⟨gh, 0, none⟩ : Addr).add i) = some u) := Lib.hid fun i u hu => by
    have hi : i < 8 := by
      rcases Nat.lt_or_ge i 8 with h | h
      · exact h
      · rw [List.getElem?_eq_none (by omega)] at hu; cases hu
    rw [← hnews, List.getElem?_map, List.getElem?_range hi] at hu
    cases hu
    rw [add_zero_block, (hB1.2.1.alloc _).cell, arr_get, if_pos hi]
  have hn1 : Hid (∀ u ∈ news, u.oneCell' = true) := Lib.hid fun u hu => by
    rw [← hnews] at hu
    simp only [List.mem_map] at hu
    obtain ⟨i, _, rfl⟩ := hu
    rfl
  have HNEWS := Lib.hid hnews
  have HNL := Lib.hid hnl
  clear hnews hnl hB1
  obtain ⟨i0, hi, hz0, hz1, hz2⟩ := info_parts info_u64
  have HI := Lib.hid (And.intro hi (And.intro hz0 (And.intro hz1 hz2)))
  clear hi hz0 hz1 hz2
  go_wp2_with (at_builtin; refine wpList_append_lies _ rfl (.tmp 109) (.tmp 110) 98 rfl w1.heap.size 100 i0 (.int .u64 0) 1 8 Tryd.underlying98 HI.out.1 HI.out.2.1 HI.out.2.2.1 HI.out.2.2.2 rfl (by omega) (.slice (some ⟨w1.heap.size, 0, none⟩) 0 0) 0 [] rfl (World.ownsRow_made w1 #[] 0 (Nat.le_refl _) (by simp [maxLen]) (by simp)) ⟨gh, 0, none⟩ 8 8 news rfl HNL.out hnc.out hn1.out (by omega) (by simp [maxLen]) (by omega) (by simp) (w1.heap.size + 1) (by simp) ?_; intro gv cap w2 hown hgrow hat hlt3)
  have hgv : gh < gv := by
    rcases hat with e | e
    · simp only [Value.ownBlock, Option.some.injEq] at e; omega
    · omega
  simp only [Nat.zero_add, List.nil_append] at hown
  have hG2 : w1.grownBy w2 (some w1.heap.size) := (World.grownBy_alloc w1 _ _).trans hgrow
  have hB2 : Base r W0 w2 gk gh s := HB1.out.grown hG2 (fun x hx => by cases hx; exact Nat.le_refl _)
  have hW2 : Blk w2 w.heap.size 100 (arr 64 fun i => u6 (wv b i)) := ((HW1.out.grown hG2 (by have := HW1.out.lt; intro e; injection e with e; omega)).same (wRow_full b 0))
  have hv2 : VAt w2 gv (rounds s (wv b) 0) := by
    have hc := hown.cells (g := gv) rfl
    rw [← HNEWS.out] at hc
    have hc' : ∀ i, i < 8 → w2.cell? ⟨gv, i, none⟩ = some (u6 (s i)) := fun i hi => by
      have := hc i (u6 (s i)) (by rw [List.getElem?_map, List.getElem?_range hi]; rfl)
      rwa [add_zero_block] at this
    exact ⟨hc' 0 (by omega), hc' 1 (by omega), hc' 2 (by omega), hc' 3 (by omega), hc' 4 (by omega), hc' 5 (by omega), hc' 6 (by omega), hc' 7 (by omega)⟩
  have hgh2 := hB2.2.1.lt
  have HB2 := Lib.hid hB2
  clear hown hgrow hat hlt3 hG2 HB1 HW1 hnc hn1 HNEWS HNL HI
  refine loop_at 272 rfl (loopR _ _ r gk gh S j w.heap.size s b w2 hB2.1 hW2 hgh2 ⟨⟨rfl, rfl, rfl, rfl, rfl, rfl⟩, rfl, 0, rfl, rfl, Below.refl _ _, gv, cap, rfl, hgv, hv2⟩ ?_)
  clear hB2 hW2 hv2 hgv
  rintro f'' w3 ⟨⟨h2, h3, h4, h5, h6, h7⟩, h8, k, hk, h16, hb3, gv3, cap3, h15, hgv3, hv3⟩
  obtain rfl : k = 64 := by omega
  rw [lit272 f'', h2, h3, h4, h5, h6, h7, h8, h15, h16]
  clear h2 h3 h4 h5 h6 h7 h8 h15 h16
  have HB3 : Hid (Base r W0 w3 gk gh s) := Lib.hid (HB2.out.grown (only_of_below hb3 none) (fun x hx => by cases hx))
  have HV3 := Lib.hid hv3
  clear hb3 hv3 HB2
  go_wp2
  refine loop_at 272 rfl (loopA _ _ r gk gh S j gv3 cap3 s (rounds s (wv b) 64) w3 hgv3 ⟨⟨rfl, rfl, rfl, rfl, rfl, rfl⟩, rfl, 0, rfl, rfl, World.grownBy.refl _ _, HV3.out, HB3.out.2.1.same (hRow_0 s _)⟩ ?_)
  rintro f3 w4 ⟨⟨h2, h3, h4, h5, h6, h7⟩, h15, k, hk, h21, hG4, hv4, hB4⟩
  obtain rfl : k = 8 := by omega
  rw [lit272 f3, h2, h3, h4, h5, h6, h7, h15, h21]
  clear h2 h3 h4 h5 h6 h7 h15 h21 hv4
  have HB4 : Hid (Base r W0 w4 gk gh (mixed s (wv b))) := Lib.hid (by
    obtain ⟨q1, q2, q3, q4, q5, q6⟩ := HB3.out
    have l3 := q3.lt
    exact ⟨q1.grown hG4 (fun e => by injection e with e; omega), hB4.same (hRow_8 s _), q3.grown hG4 (fun e => by injection e with e; omega), q4.grown hG4 (Nat.le_of_lt l3) (fun x hx => by cases hx; omega), q5, q6⟩)
  clear hG4 hB4
  go_wp2
  refine frame_end rfl (n - 1) (by omega) ⟨j + 1, by rw [HN.out]; omega, ⟨rfl, rfl, rfl, rfl, rfl, by show Value.int .i64 (64 * (j : Int) + 64) = _; go_num⟩, ?_⟩
  have e : shaSt (B.take (j + 1)) = mixed s (wv b) := by
    have hjB : j < B.length := by rw [HN.out]; exact hlt
    have hb := HBB.out
    rw [List.getD_eq_getElem?_getD, List.getElem?_eq_getElem hjB] at hb
    rw [List.take_succ_eq_append_getElem hjB, shaSt_snoc, HSS.out]
    rw [show B[j] = b from hb]
  rw [e]
  exact HB4.out

set_option maxRecDepth 1000000 in
set_option maxHeartbeats 2000000 in
theorem loopB (Q : Exit → Act → World → Prop) (f : Nat → Value) (r gk gh : Nat) (S : ByteArray) (B : List (Nat → UInt8)) (W0 w : World) (hnb : B.length ≤ 17179869190) (hS : S.size = 64 * B.length)
    (hSi : ∀ j i : Nat, j < B.length → i < 64 → ∀ x : Int, x = ((64 * j + i : Nat) : Int) → ∀ w', (Instr.index 9 (.string S) (.int .i64 x)).run Tryd.prog w' = .ok (bv ((B.getD j (fun _ => 0)) i)) w')
    (h0 : InvB r gk gh S B W0 B.length f w)
    (hexit : ∀ f' w', InvB r gk gh S B W0 0 f' w' → Q (.exit 0) ⟨arr 272 f', []⟩ w') :
    (Code.loop (refLoop 0)).wp Tryd.prog Q ⟨arr 272 f, []⟩ w := by
  refine wp_loop_frame (InvB r gk gh S B W0) B.length f h0 ?_
  clear h0 f w
  rintro n f w ⟨j, hj, hloc, hB⟩
  by_cases hlt : j < B.length
  · exact roundB Q f r gk gh S B W0 w hnb hS hSi n j hj hlt hloc hB
  · obtain rfl : j = B.length := by omega
    obtain rfl : n = 0 := by omega
    obtain ⟨h2, h3, h4, h5, h6, h7⟩ := hloc
    rw [lit272, h2, h3, h4, h5, h6, h7]
    clear h2 h3 h4 h5 h6 h7
    have HB := Lib.hid hB
    have HX := Lib.hid hexit
    have hge : ¬ (64 * (B.length : Int) < (S.size : Int)) := by omega
    obtain ⟨nb, hnb'⟩ : ∃ nb, B.length = nb := ⟨_, rfl⟩
    have HNB := Lib.hid hnb'
    rw [hnb'] at hge ⊢
    have l2 : decide (64 * (nb : Int) < (S.size : Int)) = false := by simpa using hge
    clear hB hS hSi hj hlt hge hnb' hnb hexit
    conv => arg 2; whnf
    go_wp2
    refine exit_end rfl HX.out ⟨B.length, rfl, ⟨rfl, rfl, rfl, rfl, rfl, by show Value.int .i64 (64 * (nb : Int)) = _; rw [HNB.out]⟩, HB.out⟩

set_option maxRecDepth 1000000 in
set_option maxHeartbeats 2000000 in
theorem refOf_any (L : List UInt8) (hL : L.length ≤ 1099511627776) (w : World) :
    Calls Tryd.prog 46 #[.string ⟨L.toArray⟩] w fun e w' => e = .returned (shaV L) ∧ Below w.heap.size w w' := by
  have hF := Lib.hid (fun W => callsIn_wide.1 (filled_any L hL W))
  have hZ32 : Array.replicate 32 (bv 0) = arr 32 fun _ => bv 0 := by rw [← upto_none 32 (fun _ => bv 0) (bv 0)]; exact arr_congr fun i _ => by simp
  have HZ32 := Lib.hid hZ32
  clear hZ32
  go_enter Tryd.func46, Tryd.ntmps46
  go_wp2_with (first
    | (go_at_call 63; refine (hF.out _).mono ?_; rintro e w1 ⟨rfl, hb1⟩)
    | (go_at_call 64; refine (parts_any _).mono ?_; rintro e w2 ⟨rfl, rfl⟩))
  obtain ⟨B, hB, hBw⟩ : ∃ B, allBlocks L = B ∧ (filled L).length = 64 * B.length := ⟨_, rfl, filled_length L⟩
  obtain ⟨S, hS⟩ : ∃ S, (⟨(filled L).toArray⟩ : ByteArray) = S := ⟨_, rfl⟩
  have hSs : S.size = 64 * B.length := by rw [← hS, ← hBw]; simp [ByteArray.size]
  have hBl := allBlocks_length L
  rw [hB] at hBl
  have hnb2 : B.length ≤ 17179869190 := by omega
  have hSi : ∀ j i : Nat, j < B.length → i < 64 → ∀ x : Int, x = ((64 * j + i : Nat) : Int) → ∀ w', (Instr.index 9 (.string S) (.int .i64 x)).run Tryd.prog w' = .ok (bv ((B.getD j (fun _ => 0)) i)) w' := fun j i hj hi x hx w' => by
    rw [← hS, run_index_str 9 Tryd.underlying9 (filled L) x (64 * j + i) hx (by rw [hBw]; omega) w', filled_blk L j i (by rw [hB]; exact hj) hi, hB]
  rw [hS]
  have HB := Lib.hid hB
  clear hS hB hBw hBl hF
  have hw1 := hb1.size
  have hwk : w.heap.size < w1.heap.size := by simp at hw1; omega
  obtain ⟨gk, hgk⟩ : ∃ gk, w1.heap.size = gk := ⟨_, rfl⟩
  rw [hgk] at hwk ⊢
  obtain ⟨W3, hW3⟩ : ∃ W3, (w1.alloc (Obj.cells (arr 64 fun i => u6 (kAt i)) 100)).alloc (Obj.cells #[Value.int IntKind.u64 1779033703, Value.int IntKind.u64 3144134277, Value.int IntKind.u64 1013904242, Value.int IntKind.u64 2773480762, Value.int IntKind.u64 1359893119, Value.int IntKind.u64 2600822924, Value.int IntKind.u64 528734635, Value.int IntKind.u64 1541459225] 100) = W3 := ⟨_, rfl⟩
  rw [hW3]
  have hB0 : Base w.heap.size w W3 gk (gk + 1) hAt := by
    refine ⟨?_, ?_, ?_, ?_, hwk, by omega⟩
    · rw [← hW3]; exact (Blk.newAt _ _ hgk rfl).alloc _
    · rw [← hW3]; exact Blk.newAt _ _ (by simp [hgk]) (by kernel_rfl)
    · rw [← hW3]; exact (((Blk.newAt w _ rfl HZ32.out).below hb1 (by simp)).alloc _).alloc _
    · rw [← hW3]; exact ((((Below.refl _ w).alloc (Nat.le_refl _) _).trans (hb1.mono (by simp))).alloc (by omega) _).alloc (by simp; omega) _
  clear hW3 hgk hb1 hw1
  refine loop_at 272 rfl (loopB _ _ w.heap.size gk (gk + 1) S B w W3 hnb2 hSs hSi ⟨0, by omega, ⟨rfl, rfl, rfl, rfl, rfl, rfl⟩, hB0⟩ ?_)
  clear hB0 hSi hSs hnb2
  rintro f w2 ⟨j, hj, ⟨h2, h3, h4, h5, h6, h7⟩, hB2⟩
  obtain rfl : j = B.length := by omega
  rw [List.take_length] at hB2
  rw [lit272, h2, h3, h4, h5, h6, h7]
  clear h2 h3 h4 h5 h6 h7 hj
  have HB2 := Lib.hid hB2
  obtain ⟨nb, hnb⟩ : ∃ nb, B.length = nb := ⟨_, rfl⟩
  rw [hnb]
  clear hB2 hnb
  go_wp2_with (first
    | (refine wpList_build rfl 30 #[] rfl (by kernel_rfl) ?_)
    | (refine wpList_store_row rfl 30 _ _ rfl w2.heap.size _ rfl rfl 30 _ (heap_alloc_new w2 _) (by kernel_rfl) (by kernel_rfl) (by kernel_rfl) ?_))
  have hzz : (Tryd.prog.built 30 []).getD #[] = Array.replicate 32 (bv 0) := by kernel_rfl
  rw [hzz]
  clear hzz
  generalize hO0 : (w2.alloc (Obj.cells _ 30)) = wx
  have l3 := HB2.out.2.1.lt
  have l4 := HB2.out.2.2.1.lt
  have hx1 : Blk (wx.setRow w2.heap.size (Array.replicate 32 (bv 0))) w2.heap.size 30 (upto 32 0 (fun i => bv (idByte (shaSt B) i)) (bv 0)) := by
    rw [← hO0, upto_none]
    exact (Blk.new w2 _ _).setRow _
  have hx2 : w2.grownBy (wx.setRow w2.heap.size (Array.replicate 32 (bv 0))) (some w2.heap.size) := by
    rw [← hO0]
    exact only_of_below (below_setRow ((Below.refl _ w2).alloc (Nat.le_refl _) _) (Nat.le_refl _) _) _
  have hx3 := HB2.out.2.1.grown hx2 (fun e => by injection e with e; omega)
  clear hO0
  generalize wx.setRow w2.heap.size (Array.replicate 32 (bv 0)) = wy at *
  refine loop_at 272 rfl (loopO _ _ w.heap.size (gk + 1) w2.heap.size (shaSt B) wy (by omega) hx3 ⟨rfl, rfl, rfl, 0, rfl, rfl, World.grownBy.refl _ _, hx1⟩ ?_)
  rintro f' w3 ⟨h2, h6, h22, k, hk, h23, hG, hO⟩
  obtain rfl : k = 32 := by omega
  rw [upto_full] at hO
  rw [lit272 f', h2, h6, h22, h23]
  clear h2 h6 h22 h23
  have hG3 : w2.grownBy w3 (some w2.heap.size) := hx2.trans hG
  have hR : Blk w3 w.heap.size 30 (arr 32 fun _ => bv 0) := HB2.out.2.2.1.grown hG3 (fun e => by injection e with e; omega)
  have hb3 : Below w.heap.size w w3 := HB2.out.2.2.2.1.grown hG3 (Nat.le_of_lt l4) (fun x hx => by cases hx; omega)
  have HR := Lib.hid hR
  have HO := Lib.hid hO
  have HB3 := Lib.hid hb3
  have HZ : Hid (w.heap.size < w3.heap.size) := Lib.hid hR.lt
  clear hG hG3 hR hb3 hO l3 l4 hx1 hx2 hx3
  go_wp2_with (first
    | (refine wpList_load_row rfl 30 _ rfl w2.heap.size rfl 30 (arr 32 fun i => bv (idByte (shaSt B) i)) (0, 0) _ HO.out Tryd.underlying30 rfl (by rw [arr_size]; kernel_rfl) ?_)
    | (refine wpList_store_row rfl 30 _ _ rfl w.heap.size (arr 32 fun i => bv (idByte (shaSt B) i)) rfl rfl 30 _ HR.out (by rw [arr_size]; kernel_rfl) (by rw [arr_size, arr_size]) (arr_all_bv _ _) ?_))
  refine bodyPost_ret (v := .agg (arr 32 fun i => bv (idByte (shaSt B) i))) (results_cell_row (p := 2) (ty := 30) rfl _ _ w.heap.size 30 _ (0, 0) _ rfl (HR.out.setRow _) Tryd.underlying30 rfl (by rw [arr_size]; kernel_rfl)) rfl ⟨?_, below_setRow HB3.out (Nat.le_refl _) _⟩
  rw [← HB.out]
  rfl
end Go.Proofs.YtkkanaefngggoaaDoor
