/-
  The reference's sum, the schedule's loop.
-/
import Derived.Test.YtkkanaefngggoaaDoorRefC
import Derived.Deep.QuietTactic
import Derived.BigQuiet
namespace Go.Proofs.YtkkanaefngggoaaDoor
open Go Go.RowKit
attribute [local go_sem] xor6 and6 or6 shr_w3 shr_w10

theorem wRow_16 (b : Nat → UInt8) (k : Nat) (h : k < 16) : wRow b k 4 = wRow b (k + 1) 0 := by
  refine arr_congr fun t _ => ?_
  by_cases h1 : t < k
  · rw [if_pos h1, if_pos (by omega)]
  · rw [if_neg h1]
    by_cases h2 : t = k
    · subst h2
      rw [if_pos rfl, if_pos (by omega), part_word, wv_first b t h]
      rfl
    · rw [if_neg h2, if_neg (by omega)]
      by_cases h3 : t = k + 1
      · rw [if_pos h3]; rfl
      · rw [if_neg h3]
theorem wRow_64 (b : Nat → UInt8) (k : Nat) (h : k < 64) : (wRow b k 0).setIfInBounds k (u6 (wv b k)) = wRow b (k + 1) 0 := by
  unfold wRow
  rw [arr_set _ _ _ _ h]
  refine arr_congr fun t _ => ?_
  by_cases h2 : t = k
  · subst h2; simp
  · rw [if_neg h2]
    by_cases h1 : t < k
    · rw [if_pos h1, if_pos (by omega)]
    · rw [if_neg h1, if_neg h2, if_neg (by omega)]
      by_cases h3 : t = k + 1
      · rw [if_pos h3]; rfl
      · rw [if_neg h3]
theorem wRow_lo (b : Nat → UInt8) (i c t : Nat) (h : t < i) (hi : i ≤ 64) : (wRow b i c)[t]? = some (.int .u64 ((wv b t).toNat : Int)) := by
  simp [wRow, arr_get, h, show t < 64 by omega, u6]
theorem wRow_full (b : Nat → UInt8) (c : Nat) : wRow b 64 c = arr 64 fun i => u6 (wv b i) := arr_congr fun i hi => by simp [hi]

def InvW (r gk gh : Nat) (S : ByteArray) (j gw : Nat) (b : Nat → UInt8) (W : World) (n : Nat) (f : Nat → Value) (w : World) : Prop :=
  Loc f r gk gh S j ∧ f 8 = .slice (some ⟨gw, 0, none⟩) 64 64 ∧ ∃ k, k + n = 64 ∧ f 9 = .int .i64 (k : Int) ∧ Blk w gw 100 (wRow b k 0) ∧ W.grownBy w (some gw)

set_option maxRecDepth 1000000 in
set_option maxHeartbeats 1000000 in
theorem roundW1 (Q : Exit → Act → World → Prop) (f : Nat → Value) (r gk gh : Nat) (S : ByteArray) (j gw : Nat) (b : Nat → UInt8) (W w : World) (hj : j < 17179869190)
    (hSi : ∀ i, i < 64 → ∀ x : Int, x = ((64 * j + i : Nat) : Int) → ∀ w', (Instr.index 9 (.string S) (.int .i64 x)).run Tryd.prog w' = .ok (bv (b i)) w')
    (n k : Nat) (hk : k + n = 64) (hlt : k < 16) (h2 : Loc f r gk gh S j) (h8 : f 8 = .slice (some ⟨gw, 0, none⟩) 64 64) (h9 : f 9 = .int .i64 (k : Int)) (hB : Blk w gw 100 (wRow b k 0)) (hG : W.grownBy w (some gw)) :
    (refLoop 1).wp Tryd.prog (Exit.then (Next 272 (InvW r gk gh S j gw b W) n) Q) ⟨arr 272 f, []⟩ w := by
  obtain ⟨h2, h3, h4, h5, h6, h7⟩ := h2
  rw [lit272, h2, h3, h4, h5, h6, h7, h8, h9]
  clear h2 h3 h4 h5 h6 h7 h8 h9
  have HSi := Lib.hid hSi
  have HB := Lib.hid hB
  have HG := Lib.hid hG
  clear hSi hB hG
  conv => arg 2; whnf
  have l1 : decide ((k : Int) < 16) = true := by simp; omega
  have l2 : decide ((k : Int) < 64) = true := by simp; omega
  go_wp2
  refine loop_at 272 rfl (loopC _ _ r gk gh S j k gw b w hlt hj (fun c hc x hx w' => HSi.out (4 * k + c) (by omega) x hx w') ⟨⟨rfl, rfl, rfl, rfl, rfl, rfl⟩, rfl, rfl, 0, rfl, rfl, HB.out, World.grownBy.refl _ _⟩ ?_)
  rintro f' w' ⟨⟨h2, h3, h4, h5, h6, h7⟩, h8, h9, c, hc, h10, hB, hG⟩
  obtain rfl : c = 4 := by omega
  rw [lit272 f', h2, h3, h4, h5, h6, h7, h8, h9, h10]
  have HB2 := Lib.hid hB
  have HG2 := Lib.hid hG
  clear h2 h3 h4 h5 h6 h7 h8 h9 h10 hB hG
  go_wp2
  exact frame_end rfl (n - 1) (by omega) ⟨⟨rfl, rfl, rfl, rfl, rfl, rfl⟩, rfl, k + 1, by omega, by show Value.int .i64 ((k : Int) + 1) = _; go_num, HB2.out.same (wRow_16 b k hlt), HG.out.trans HG2.out⟩

set_option maxRecDepth 1000000 in
set_option maxHeartbeats 1000000 in
theorem roundW2 (Q : Exit → Act → World → Prop) (f : Nat → Value) (r gk gh : Nat) (S : ByteArray) (j gw : Nat) (b : Nat → UInt8) (W w : World)
    (n k : Nat) (hk : k + n = 64) (hlt : 16 ≤ k) (hl2 : k < 64) (h2 : Loc f r gk gh S j) (h8 : f 8 = .slice (some ⟨gw, 0, none⟩) 64 64) (h9 : f 9 = .int .i64 (k : Int)) (hB : Blk w gw 100 (wRow b k 0)) (hG : W.grownBy w (some gw)) :
    (refLoop 1).wp Tryd.prog (Exit.then (Next 272 (InvW r gk gh S j gw b W) n) Q) ⟨arr 272 f, []⟩ w := by
  obtain ⟨h2, h3, h4, h5, h6, h7⟩ := h2
  rw [lit272, h2, h3, h4, h5, h6, h7, h8, h9]
  clear h2 h3 h4 h5 h6 h7 h8 h9
  have HB := Lib.hid hB
  have HG := Lib.hid hG
  conv => arg 2; whnf
  have l1 : decide ((k : Int) < 16) = false := by simp; omega
  have l2 : decide ((k : Int) < 64) = true := by simp; omega
  have c1 := hB.cell (k - 15)
  have c2 := hB.cell (k - 2)
  have c3 := hB.cell (k - 16)
  have c4 := hB.cell (k - 7)
  have c5 := hB.cell k
  have f5 := hB.frozen k
  rw [wRow_lo _ _ _ _ (by omega) (by omega)] at c1 c2 c3 c4
  rw [wRow_at _ _ _ (by omega)] at c5
  have e1 : IntKind.i64.wrap ((k : Int) - 15) = (k : Int) - 15 := IntWalk.i64_in _ (by omega)
  have e2 : IntKind.i64.wrap ((k : Int) - 2) = (k : Int) - 2 := IntWalk.i64_in _ (by omega)
  have e3 : IntKind.i64.wrap ((k : Int) - 16) = (k : Int) - 16 := IntWalk.i64_in _ (by omega)
  have e4 : IntKind.i64.wrap ((k : Int) - 7) = (k : Int) - 7 := IntWalk.i64_in _ (by omega)
  have b1 : (15 : Int) ≤ (k : Int) := by omega
  have b2 : (2 : Int) ≤ (k : Int) := by omega
  have b3 : (16 : Int) ≤ (k : Int) := by omega
  have b4 : (7 : Int) ≤ (k : Int) := by omega
  have d1 : (k : Int) - 15 < 64 := by omega
  have d2 : (k : Int) - 2 < 64 := by omega
  have d3 : (k : Int) - 16 < 64 := by omega
  have d4 : (k : Int) - 7 < 64 := by omega
  have d5 : (k : Int) < 64 := by omega
  have t1 : ((k : Int) - 15).toNat = k - 15 := by omega
  have t2 : ((k : Int) - 2).toNat = k - 2 := by omega
  have t3 : ((k : Int) - 16).toNat = k - 16 := by omega
  have t4 : ((k : Int) - 7).toNat = k - 7 := by omega
  clear hB hG
  go_wp2
  go_quiet (fail)
  rw [← World.cell?_drewN (n := nq)] at c3 c4 c5
  rw [← World.frozen?_drewN (n := nq)] at f5
  have HB1 := Lib.hid (HB.out.drewN nq)
  have HG1 := Lib.hid (only_drewN HG.out nq)
  clear c1 c2 HB HG
  generalize w.drewN nq = w2 at *
  go_wp2_with (go_at_call 65; refine (turn_k _ _ (by omega) (by omega) _).mono ?_; rintro e w' ⟨rfl, nt, rfl⟩)
  have hnx := wv_next b k hlt
  have l3 : xo (xo (rr (wv b (k - 15)) 7) (rr (wv b (k - 15)) 18)) (sr (wv b (k - 15)) 3) = low (wv b (k - 15)) := rfl
  have l4 : xo (xo (rr (wv b (k - 2)) 17) (rr (wv b (k - 2)) 19)) (sr (wv b (k - 2)) 10) = high (wv b (k - 2)) := rfl
  rw [← l3, ← l4] at hnx
  clear l3 l4
  generalize xo (xo (rr (wv b (k - 15)) 7) (rr (wv b (k - 15)) 18)) (sr (wv b (k - 15)) 3) = lo at *
  generalize xo (xo (rr (wv b (k - 2)) 17) (rr (wv b (k - 2)) 19)) (sr (wv b (k - 2)) 10) = hi at *
  generalize wv b (k - 16) = xa at *
  generalize wv b (k - 7) = xb at *
  refine wp_draws (fun w3 hw3 => ?_)
  obtain ⟨HG2, HB2, c3, c4, c5, f5⟩ : Hid (W.grownBy w3 (some gw)) ∧ Hid (Blk w3 gw 100 (wRow b k 0)) ∧ w3.cell? ⟨gw, k - 16, none⟩ = some (.int .u64 (xa.toNat : Int)) ∧ w3.cell? ⟨gw, k - 7, none⟩ = some (.int .u64 (xb.toNat : Int)) ∧ w3.cell? ⟨gw, k, none⟩ = some (.int .u64 (part b k 0 : Nat)) ∧ w3.frozen? ⟨gw, k, none⟩ = false := by
    obtain ⟨m, rfl⟩ := hw3
    exact ⟨Lib.hid (only_drewN HG1.out m), Lib.hid (HB1.out.drewN m), c3, c4, c5, f5⟩
  clear HG1 HB1 hw3
  have HNX := Lib.hid hnx
  clear hnx
  have q1 := w_lt lo
  have q2 := w_lt hi
  have q3 := w_lt xa
  have q4 := w_lt xb
  have s1 : IntKind.u64.wrap ((xa.toNat : Int) + (lo.toNat : Int)) = (xa.toNat : Int) + (lo.toNat : Int) := by rw [IntKind.wrap_u64]; omega
  have s2 : IntKind.u64.wrap ((xa.toNat : Int) + (lo.toNat : Int) + (xb.toNat : Int)) = (xa.toNat : Int) + (lo.toNat : Int) + (xb.toNat : Int) := by rw [IntKind.wrap_u64]; omega
  have s3 : IntKind.u64.wrap ((xa.toNat : Int) + (lo.toNat : Int) + (xb.toNat : Int) + (hi.toNat : Int)) = (xa.toNat : Int) + (lo.toNat : Int) + (xb.toNat : Int) + (hi.toNat : Int) := by rw [IntKind.wrap_u64]; omega
  have s4 := add4 xa lo xb hi
  have s5 : ((xa.toNat : Int) + (lo.toNat : Int) + (xb.toNat : Int) + (hi.toNat : Int)).tmod 4294967296 = ((ad (ad (ad xa lo) xb) hi).toNat : Int) := by rw [Int.tmod_eq_emod_of_nonneg (by omega)]; exact s4
  go_wp2
  go_still_tail 20, (by kernel_rfl)
  change wpList _ _ _ _ _ w3.drew
  go_wp2
  refine frame_end rfl (n - 1) (by omega) ⟨⟨rfl, rfl, rfl, rfl, rfl, rfl⟩, rfl, k + 1, by omega, by show Value.int .i64 ((k : Int) + 1) = _; go_num, ?_, only_drew (only_setCell HG2.out (.inl rfl) _)⟩
  refine ((HB2.out.store k _).same ?_).drew
  rw [← wRow_64 b k hl2]
  congr 1
  rw [HNX.out]
  rfl

set_option maxRecDepth 1000000 in
set_option maxHeartbeats 1000000 in
theorem loopW (Q : Exit → Act → World → Prop) (f : Nat → Value) (r gk gh : Nat) (S : ByteArray) (j gw : Nat) (b : Nat → UInt8) (W : World) (hj : j < 17179869190)
    (hSi : ∀ i, i < 64 → ∀ x : Int, x = ((64 * j + i : Nat) : Int) → ∀ w', (Instr.index 9 (.string S) (.int .i64 x)).run Tryd.prog w' = .ok (bv (b i)) w')
    (h0 : InvW r gk gh S j gw b W 64 f W)
    (hexit : ∀ f' w', InvW r gk gh S j gw b W 0 f' w' → Q (.exit 2) ⟨arr 272 f', []⟩ w') :
    (Code.loop (refLoop 1)).wp Tryd.prog Q ⟨arr 272 f, []⟩ W := by
  refine wp_loop_frame (InvW r gk gh S j gw b W) 64 f h0 ?_
  clear h0 f
  intro n f w ⟨h2, h8, k, hk, h9, hB, hG⟩
  by_cases h16 : k < 16
  · exact roundW1 Q f r gk gh S j gw b W w hj hSi n k hk h16 h2 h8 h9 hB hG
  · by_cases h64 : k < 64
    · exact roundW2 Q f r gk gh S j gw b W w n k hk (by omega) h64 h2 h8 h9 hB hG
    · obtain rfl : k = 64 := by omega
      obtain rfl : n = 0 := by omega
      obtain ⟨h2, h3, h4, h5, h6, h7⟩ := h2
      rw [lit272, h2, h3, h4, h5, h6, h7, h8, h9]
      clear h2 h3 h4 h5 h6 h7 h8 h9
      have HX := Lib.hid hexit
      have HB := Lib.hid hB
      have HG := Lib.hid hG
      clear hexit hSi hB hG
      conv => arg 2; whnf
      go_wp2
      exact exit_end rfl HX.out ⟨⟨rfl, rfl, rfl, rfl, rfl, rfl⟩, rfl, 64, rfl, rfl, HB.out, HG.out⟩
end Go.Proofs.YtkkanaefngggoaaDoor
