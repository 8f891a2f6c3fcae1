/-
  The guard of layer 14: one alone agrees with itself. No condition.
-/
import Derived.Test.YtbgojlcciealiaaRndCall2
import Derived.Test.YtbgojlcciealiaaRndIn
namespace Go.Proofs.Ytbgojlcciealiaa
open Go Go.RowKit Go.Maps

def aloneA : List ActS := [⟨1, 0, 0, 0, sevenId⟩, ⟨2, 0, 0, 0, sevenId⟩, ⟨2, 0, 1, 0, sevenId⟩, ⟨4, 0, 0, 0, sevenId⟩]
set_option maxRecDepth 100000 in
theorem alone_acts : begA (settleS (remS (newS 1 0 3) sevenId)) sevenId ++ settleA (begS (settleS (remS (newS 1 0 3) sevenId)) sevenId) = aloneA := by kernel_rfl
set_option maxRecDepth 100000 in
theorem alone_over : (settleS (begS (settleS (remS (newS 1 0 3) sevenId)) sevenId)).step = 3 := by kernel_rfl
theorem seven_ok : IdOk sevenId := by unfold IdOk sevenId; simp
theorem Chg.belowN {b : Nat} {W W1 W2 : World} {B M : Nat} {kv kv' : Value} (h : Chg W1 W2 B M kv kv') (hb : Below b W W1) (h0 : b ≤ W1.heap.size) (h1 : b ≤ B) (h2 : b ≤ M) (h3 : ∀ g, kv.ownBlock = some g → b ≤ g) : Below b W W2 ∧ ∀ g, kv'.ownBlock = some g → b ≤ g := by
  refine ⟨⟨h.os.trans hb.os, h.tape.trans hb.tape, h.output.trans hb.output, Nat.le_trans hb.size h.size, fun k hk => (h.block k (by omega) (by omega) (by omega) (fun e => by have := h3 k e.symm; omega)).trans (hb.block k hk)⟩, fun g e => ?_⟩
  rcases h.row with hr | ⟨g', hr, hg⟩
  · exact h3 g (hr ▸ e)
  · rw [hr] at e
    have e' : g' = g := Option.some.inj e
    omega
set_option maxRecDepth 100000 in
theorem act_done7 : Try.prog.built 71 [(0, .int .i64 4), (4, idv sevenId)] = some (actA ⟨4, 0, 0, 0, sevenId⟩) := by kernel_rfl
set_option maxRecDepth 100000 in
theorem act_eql7 (w : World) : (binOp .eql 71 (.agg (actA ⟨4, 0, 0, 0, sevenId⟩)) (.agg (actA ⟨4, 0, 0, 0, sevenId⟩))).run Try.prog w = .ok (.bool true) w := by kernel_rfl
set_option maxRecDepth 100000 in
theorem act_guard7 (x y : Operand) (w : World) : (eqGuard .eql 71 x y (.agg (actA ⟨4, 0, 0, 0, sevenId⟩)) (.agg (actA ⟨4, 0, 0, 0, sevenId⟩))).run Try.prog w = .ok () w := by kernel_rfl
set_option maxRecDepth 100000 in
set_option maxHeartbeats 8000000 in
theorem agrees_any (W : World) : Calls Try.prog 32 #[] W fun e w' => e = .returned (.bool true) ∧ Below W.heap.size W w' := by
  have HNW := Lib.hid (newR_good 1 0 3 W (by decide) (by decide) (by decide) (by decide) (wfi_small (by decide) (by decide)))
  have HPR := Lib.hid (fun w => proposer_any 4 3 2 (by decide) (by decide) (by decide) (by decide) w)
  go_enter Try.func32, Try.ntmps32
  go_upto_region 4 with (go_at_call 33; refine HNW.out.mono ?_; rintro e W1 ⟨B, C, M, rfl, hR, hB, h1, h2, h3⟩)
  have HBM := Lib.hid (And.intro h1 h3)
  have hK : ∀ g, (Value.slice none 0 0).ownBlock = some g → W.heap.size ≤ g := fun g e => by cases e
  replace hR : RoundAt W1 B C M 0 (.slice none 0 0) (newS 1 0 3) := hR
  clear h1 h2 h3
  refine wp_region_list ?_
  refine wpList_yields (S := fun _ => True) (trivial) (v := ?_) (Or.inl ⟨by rfl, ?_⟩) (by rfl) ?_
  rotate_left
  · intro w hSw; (try dsimp only at hSw); go_simp; try (with_reducible rfl)
  try simp only [Act.put, nz1, nz2, nz3]
  refine wpList_yields (S := fun _ => True) (trivial) (v := (idv sevenId)) (yields_build (by rfl) 24 _ rfl [(0, .int .u8 7)] rfl _ seven_built) (by rfl) ?_
  try simp only [Act.put, nz1, nz2, nz3]
  go_upto_region 5 with (go_at_call 45; refine (know_any hR sevenId seven_ok (by unfold maxLen; omega)).mono ?_; rintro e Ws ⟨kv2, ⟨vs, rfl, hos⟩, hrs, hcs⟩; obtain ⟨hq1, hq2⟩ := hcs.belowN hB hB.size HBM.out.1 HBM.out.2 hK; clear hB hK hR; have hB := hq1; have hK := hq2; have hR := hrs; clear hq1 hq2 hrs hcs)
  clear hos
  refine wp_region_list ?_
  refine wpList_yields (S := fun _ => True) (trivial) (v := ?_) (Or.inl ⟨by rfl, ?_⟩) (by rfl) ?_
  rotate_left
  · intro w hSw; (try dsimp only at hSw); go_simp; try (with_reducible rfl)
  try simp only [Act.put, nz1, nz2, nz3]
  refine wpList_yields (S := fun _ => True) (trivial) (v := (idv sevenId)) (yields_build (by rfl) 24 _ rfl [(0, .int .u8 7)] rfl _ seven_built) (by rfl) ?_
  try simp only [Act.put, nz1, nz2, nz3]
  go_upto_region 7 with (first
    | (go_at_call 39; refine (beginM_any hR sevenId seven_ok (by unfold maxLen; omega)).mono ?_; rintro e Ws ⟨kv2, ⟨vs, rfl, hos⟩, hrs, hcs⟩; obtain ⟨hq1, hq2⟩ := hcs.belowN hB hB.size HBM.out.1 HBM.out.2 hK; clear hB hK hR; have hB := hq1; have hK := hq2; have hR := hrs; clear hq1 hq2 hrs hcs)
    | (go_at_call 40; refine (where_any hR).mono ?_; rintro e Wz ⟨rfl, hbz⟩; replace hB := hB.trans (hbz.mono hB.size); replace hR := hR.below hbz; replace hos := hos.below hbz; clear hbz))
  rw [alone_over]
  rw [alone_acts] at hos
  have hrd := rdA_own hos.2.2 hos.1 rfl (by decide)
  obtain ⟨ad, c, rfl, -, -, hl3⟩ := hrd.here (k := 3) (x := ⟨4, 0, 0, 0, sevenId⟩) rfl
  have HC3 := Lib.hid (hl3 Wz (Below.refl _ _))
  simp only [show aloneA.length = 4 from rfl]
  obtain ⟨hx1, Aq, cq, hx2, hx3, hx4, hx5⟩ := hrd
  obtain ⟨ad2, hx6, hx7, hx8⟩ := hx5 (by decide)
  have hx9 := (Value.slice.inj hx2).1
  rw [hx6] at hx9
  obtain rfl := Option.some.inj hx9
  have HC0 := Lib.hid (hx8 0 ⟨1, 0, 0, 0, sevenId⟩ rfl 0 (by omega))
  clear hx1 hx2 hx3 hx4 hx5 hx6 hx7 hx8 hx9 hl3 hos
  refine wp_region_list ?_
  refine wpList_yields (S := fun W' => W' = Wz) (rfl) (v := ?_) (Or.inl ⟨by rfl, ?_⟩) (by rfl) ?_
  rotate_left
  · intro w hSw; (try dsimp only at hSw); go_simp; try (with_reducible rfl)
  try simp only [Act.put, nz1, nz2, nz3]
  refine wpList_yields (S := fun W' => W' = Wz) (rfl) (v := ?_) (Or.inl ⟨by rfl, ?_⟩) (by rfl) ?_
  rotate_left
  · intro w hSw; (try dsimp only at hSw); go_simp; try (with_reducible rfl)
  try simp only [Act.put, nz1, nz2, nz3]
  refine wpList_yields (S := fun W' => W' = Wz) (rfl) (v := ?_) (Or.inl ⟨by rfl, ?_⟩) (by rfl) ?_
  rotate_left
  · intro w hSw; (try dsimp only at hSw); go_simp; try (with_reducible rfl)
  try simp only [Act.put, nz1, nz2, nz3]
  refine wpList_yields (S := fun W' => W' = Wz) (rfl) (v := ?_) (Or.inl ⟨by rfl, ?_⟩) (by rfl) ?_
  rotate_left
  · intro w hSw; (try dsimp only at hSw); go_simp; try (with_reducible rfl)
  try simp only [Act.put, nz1, nz2, nz3]
  refine wpList_yields (S := fun W' => W' = Wz) (rfl) (v := ?_) (Or.inl ⟨by rfl, ?_⟩) (by rfl) ?_
  rotate_left
  · intro w hSw; (try dsimp only at hSw); go_simp; try (with_reducible rfl)
  try simp only [Act.put, nz1, nz2, nz3]
  refine wpList_yields (S := fun W' => W' = Wz) (rfl) (v := ?_) (Or.inl ⟨by rfl, ?_⟩) (by rfl) ?_
  rotate_left
  · intro w hSw; (try dsimp only at hSw); go_simp; try (with_reducible rfl)
  try simp only [Act.put, nz1, nz2, nz3]
  refine wpList_yields (S := fun W' => W' = Wz) (rfl) (v := ?_) (Or.inl ⟨by rfl, ?_⟩) (by rfl) ?_
  rotate_left
  · intro w hSw; (try dsimp only at hSw); go_simp; try (with_reducible rfl)
  try simp only [Act.put, nz1, nz2, nz3]
  refine wpList_yields (S := fun W' => W' = Wz) (rfl) (v := (.int .i64 1)) (yields_one (by rfl) 3 _ rfl _ rfl _ _ (fun W' hS => by rw [hS]; exact HC0.out) Try.underlying3 rfl) (by rfl) ?_
  try simp only [Act.put, nz1, nz2, nz3]
  refine wpList_yields (S := fun W' => W' = Wz) (rfl) (v := ?_) (Or.inl ⟨by rfl, ?_⟩) (by rfl) ?_
  rotate_left
  · intro w hSw; (try dsimp only at hSw); go_simp; try (with_reducible rfl)
  try simp only [Act.put, nz1, nz2, nz3]
  refine wpList_yields (S := fun W' => W' = Wz) (rfl) (v := ?_) (Or.inl ⟨by rfl, ?_⟩) (by rfl) ?_
  rotate_left
  · intro w hSw; (try dsimp only at hSw); go_simp; try (with_reducible rfl)
  try simp only [Act.put, nz1, nz2, nz3]
  refine wpList_yields (S := fun W' => W' = Wz) (rfl) (v := ?_) (Or.inl ⟨by rfl, ?_⟩) (by rfl) ?_
  rotate_left
  · intro w hSw; (try dsimp only at hSw); go_simp; try (with_reducible rfl)
  try simp only [Act.put, nz1, nz2, nz3]
  refine wpList_yields (S := fun W' => W' = Wz) (rfl) (v := ?_) (Or.inl ⟨by rfl, ?_⟩) (by rfl) ?_
  rotate_left
  · intro w hSw; (try dsimp only at hSw); go_simp; try (with_reducible rfl)
  try simp only [Act.put, nz1, nz2, nz3]
  refine wpList_yields (S := fun W' => W' = Wz) (rfl) (v := ?_) (Or.inl ⟨by rfl, ?_⟩) (by rfl) ?_
  rotate_left
  · intro w hSw; (try dsimp only at hSw); go_simp; try (with_reducible rfl)
  try simp only [Act.put, nz1, nz2, nz3]
  refine wpList_yields (S := fun W' => W' = Wz) (rfl) (v := (.agg (actA ⟨4, 0, 0, 0, sevenId⟩))) (yields_run (by rfl) 71 _ rfl _ _ rfl (fun W' hS => by rw [hS]; exact HC3.out)) (by rfl) ?_
  try simp only [Act.put, nz1, nz2, nz3]
  refine wpList_yields (S := fun W' => W' = Wz) (rfl) (v := (idv sevenId)) (yields_build (by rfl) 24 _ rfl [(0, .int .u8 7)] rfl _ seven_built) (by rfl) ?_
  try simp only [Act.put, nz1, nz2, nz3]
  refine wpList_yields (S := fun W' => W' = Wz) (rfl) (v := (.agg (actA ⟨4, 0, 0, 0, sevenId⟩))) (yields_build (by rfl) 71 _ rfl [(0, .int .i64 4), (4, idv sevenId)] rfl _ act_done7) (by rfl) ?_
  try simp only [Act.put, nz1, nz2, nz3]
  refine wpList_yields (S := fun W' => W' = Wz) (rfl) (v := (.bool true)) (yields_binR (by rfl) .eql 71 _ _ _ rfl (.agg (actA ⟨4, 0, 0, 0, sevenId⟩)) (.agg (actA ⟨4, 0, 0, 0, sevenId⟩)) rfl rfl _ (fun w => act_guard7 _ _ w) (fun w => act_eql7 w)) (by rfl) ?_
  try simp only [Act.put, nz1, nz2, nz3]
  refine wpList_yields (S := fun W' => W' = Wz) (rfl) (v := ?_) (Or.inl ⟨by rfl, ?_⟩) (by rfl) ?_
  rotate_left
  · intro w hSw; (try dsimp only at hSw); go_simp; try (with_reducible rfl)
  try simp only [Act.put, nz1, nz2, nz3]
  refine wpList_yields (S := fun W' => W' = Wz) (rfl) (v := ?_) (Or.inl ⟨by rfl, ?_⟩) (by rfl) ?_
  rotate_left
  · intro w hSw; (try dsimp only at hSw); go_simp; try (with_reducible rfl)
  try simp only [Act.put, nz1, nz2, nz3]
  refine wpList_yields (S := fun W' => W' = Wz) (rfl) (v := ?_) (Or.inl ⟨by rfl, ?_⟩) (by rfl) ?_
  rotate_left
  · intro w hSw; (try dsimp only at hSw); go_simp; try (with_reducible rfl)
  try simp only [Act.put, nz1, nz2, nz3]
  refine wpList_yields (S := fun W' => W' = Wz) (rfl) (v := ?_) (Or.inl ⟨by rfl, ?_⟩) (by rfl) ?_
  rotate_left
  · intro w hSw; (try dsimp only at hSw); go_simp; try (with_reducible rfl)
  try simp only [Act.put, nz1, nz2, nz3]
  refine wpList_yields (S := fun W' => W' = Wz) (rfl) (v := ?_) (Or.inl ⟨by rfl, ?_⟩) (by rfl) ?_
  rotate_left
  · intro w hSw; (try dsimp only at hSw); go_simp; try (with_reducible rfl)
  try simp only [Act.put, nz1, nz2, nz3]
  refine wpList_yields (S := fun W' => W' = Wz) (rfl) (v := ?_) (Or.inl ⟨by rfl, ?_⟩) (by rfl) ?_
  rotate_left
  · intro w hSw; (try dsimp only at hSw); go_simp; try (with_reducible rfl)
  try simp only [Act.put, nz1, nz2, nz3]
  go_wp2_with (go_at_call 43; refine (HPR.out _).mono ?_; rintro e Wq ⟨rfl, h1⟩; obtain rfl := h1.symm)
  go_ret
  exact ⟨rfl, hB⟩
end Go.Proofs.Ytbgojlcciealiaa
