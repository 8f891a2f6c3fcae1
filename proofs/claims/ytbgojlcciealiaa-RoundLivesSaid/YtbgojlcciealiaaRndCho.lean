/-
  One's way to agreement: for what to vote early. No condition.
-/
import Derived.Test.YtbgojlcciealiaaRndStep
import Derived.Test.YtbgojlcciealiaaRndNewB
namespace Go.Proofs.Ytbgojlcciealiaa
open Go Go.RowKit Go.Maps

/-- An offer within the block, loaded. -/
theorem load_offer {W : World} {B C M n : Nat} {kv : Value} {s : RdS} (h : RoundAt W B C M n kv s) {k : Nat} (hk : k < 12) : (Instr.loadAt 127 (.pointer (some ⟨B, 104 + k * 34, none⟩))).run Try.prog W = .ok (.agg (offC (s.offers k)).toArray) W := by
  have ho := (h.ok.offers k hk).1
  have hl2 := run_loadCells_list (P := Try.prog) W ⟨B, 104 + k * 34, none⟩ (offC (s.offers k)) (fun j x hx => by
    have hj : j < 34 := by
      have := (List.getElem?_eq_some_iff.1 hx).1
      rw [offC_length ho] at this
      exact this
    rw [show (⟨B, 104 + k * 34, none⟩ : Addr).add j = ⟨B, 104 + 34 * k + j, none⟩ by simp [Addr.add, Nat.mul_comm], h.cell (by omega), rdF_offer _ _ _ hk hj, ← offC_get ho hj, List.getD_eq_getElem?_getD, hx]
    rfl)
  rw [offC_length ho] at hl2
  cases hq : Try.prog.info? 127 with
  | none => have := offer_info; simp [hq] at this
  | some i =>
    have hs : i.size = 34 := by have := offer_info; simpa [hq] using this
    have hagg : (isAgg 127).run Try.prog W = .ok true W := by
      unfold isAgg
      rw [Sem.run_bind, run_underlying Try.underlying127 W]
      rfl
    simp [Instr.loadAt, Instr.sureAddr, loadVar, Sem.run_bind, hagg, sizeOf, typeInfo, hq, hs, hl2]
theorem load_off {W : World} {g t : Nat} {o : OfferS} (h : Blk W g t (offC o).toArray) (ho : IdOk o.id) : (Instr.loadAt 127 (.pointer (some ⟨g, 0, none⟩))).run Try.prog W = .ok (.agg (offC o).toArray) W := by
  have hl2 := run_loadCells_list (P := Try.prog) W ⟨g, 0, none⟩ (offC o) (fun j x hx => by
    rw [show (⟨g, 0, none⟩ : Addr).add j = ⟨g, j, none⟩ by unfold Addr.add; simp; omega, h.cell, List.getElem?_toArray, hx])
  rw [offC_length ho] at hl2
  cases hq : Try.prog.info? 127 with
  | none => have := offer_info; simp [hq] at this
  | some i =>
    have hs : i.size = 34 := by have := offer_info; simpa [hq] using this
    have hagg : (isAgg 127).run Try.prog W = .ok true W := by
      unfold isAgg
      rw [Sem.run_bind, run_underlying Try.underlying127 W]
      rfl
    simp [Instr.loadAt, Instr.sureAddr, loadVar, Sem.run_bind, hagg, sizeOf, typeInfo, hq, hs, hl2]
theorem int_gtr (a b : Int) (v : Bool) (h : decide (b < a) = v) (w : World) : (binOp .gtr 3 (.int .i64 a) (.int .i64 b)).run Try.prog w = .ok (.bool v) w := by
  subst h
  go_simp
set_option maxRecDepth 100000 in
set_option maxHeartbeats 8000000 in
theorem choice_step_no {W : World} {B C M n : Nat} {kv : Value} {s : RdS} (h : RoundAt W B C M n kv s) (hs : s.step ≠ 0) : Calls Try.prog 77 #[.pointer (some ⟨B, 0, none⟩)] W fun e w' => e = .returned (.tuple #[idv ((choiceS s).getD zeroId), .bool (choiceS s).isSome]) ∧ Below W.heap.size W w' := by
  have HFIN : Hid (choiceS s = none) := Lib.hid (by unfold choiceS; rw [if_pos hs])
  have HR := Lib.hid h
  clear h
  go_enter Try.func77, Try.ntmps77
  go_upto_region 1 with fail
  generalize hW : World.alloc _ _ = W1
  have hb1 : Below W.heap.size W W1 := by rw [← hW]; exact (Below.refl _ _).alloc (Nat.le_refl _) _
  obtain ⟨old, hk1, ho1⟩ : ∃ old, Blk W1 W.heap.size 24 old ∧ old.size = 32 := by rw [← hW]; exact ⟨_, Blk.newAt _ _ rfl rfl, rfl⟩
  have HO1 := Lib.hid ho1
  have HBW := Lib.hid hb1
  have HK6 := Lib.hid hk1
  have c4 : W1.cell? ⟨B, 4, none⟩ = some (.int .i64 s.step) := (HR.out.below hb1).cell (i := 4) (by omega)
  have hs2 : (s.step == 0) = false := by rw [beq_eq_false_iff_ne]; exact hs
  have hbX : Below W1.heap.size W1 W1 := Below.refl _ _
  clear hb1 hk1 ho1 hW
  go_wp2_with (first
  | (guard_target = wpList _ _ _ (Oper.mk _ (.build 24 _) _ _ _ _ :: _) _ _; refine wpList_build_zero rfl rfl ?_)
  | (guard_target = wpList _ _ _ (Oper.mk _ (.store 24 _ _) _ _ _ _ :: _) _ _; refine wpList_store_idv rfl _ _ rfl W.heap.size (zeroId) rfl rfl zeroId_ok 24 _ (HK6.out.below hbX HK6.out.lt) HO1.out ?_; intro W9 hS9 hz9 hb9 hk9))
  refine bodyPost_ret (results_cell_tmp (p := 2) (q := 3) rfl _ _ W.heap.size 24 (idC (zeroId)) _ rfl hS9 Try.underlying24 rfl (by rw [idC_size zeroId_ok]; exact id_info)) rfl ?_
  exact ⟨by rw [HFIN.out]; rfl, (HBW.out.trans (hbX.mono HBW.out.size)).trans hb9⟩
set_option maxRecDepth 100000 in
set_option maxHeartbeats 8000000 in
theorem choice_none {W : World} {B C M n : Nat} {kv : Value} {s : RdS} (h : RoundAt W B C M n kv s) (k : Nat) (hk : s.round = (k : Int)) (hk12 : k < 12) (hs : s.step = 0) (ht : (s.offers k).there = false) : Calls Try.prog 77 #[.pointer (some ⟨B, 0, none⟩)] W fun e w' => e = .returned (.tuple #[idv ((choiceS s).getD zeroId), .bool (choiceS s).isSome]) ∧ Below W.heap.size W w' := by
  have HFIN : Hid (choiceS s = none) := Lib.hid (by
    unfold choiceS
    rw [if_neg (fun e => e hs)]
    dsimp only
    rw [hk, Int.toNat_natCast]
    rw [if_pos (.inl ht)])
  have HR := Lib.hid h
  have HOI : Hid (IdOk (s.offers k).id) := Lib.hid (h.ok.offers k hk12).1
  have HVD : Hid (0 ≤ (s.offers k).valid ∧ (s.offers k).valid ≤ (k : Int)) := Lib.hid (h.ok.offers k hk12).2
  clear h
  go_enter Try.func77, Try.ntmps77
  go_upto_region 1 with fail
  generalize hW : World.alloc _ _ = W1
  have hb1 : Below W.heap.size W W1 := by rw [← hW]; exact (Below.refl _ _).alloc (Nat.le_refl _) _
  obtain ⟨old, hk1, ho1⟩ : ∃ old, Blk W1 W.heap.size 24 old ∧ old.size = 32 := by rw [← hW]; exact ⟨_, Blk.newAt _ _ rfl rfl, rfl⟩
  have HO1 := Lib.hid ho1
  have HB1 := Lib.hid hb1
  have HK1 := Lib.hid hk1
  have c4 : W1.cell? ⟨B, 4, none⟩ = some (.int .i64 0) := by rw [(HR.out.below hb1).cell (i := 4) (by omega)]; show some (Value.int .i64 s.step) = _; rw [hs]
  have HC3 : Hid (∀ W', Below W1.heap.size W1 W' → W'.cell? ⟨B, 3, none⟩ = some (.int .i64 (k : Int))) := Lib.hid fun W' hb => by rw [(HR.out.below (hb1.trans (hb.mono hb1.size))).cell (i := 3) (by omega)]; show some (Value.int .i64 s.round) = _; rw [hk]
  have HLO : Hid (∀ W', Below W1.heap.size W1 W' → (Instr.loadAt 127 (.pointer (some ⟨B, 104 + k * 34, none⟩))).run Try.prog W' = .ok (.agg (offC (s.offers k)).toArray) W') := Lib.hid fun W' hb => load_offer (HR.out.below (hb1.trans (hb.mono hb1.size))) hk12
  have hkn : (k : Int) < 12 := by omega
  clear hb1 hk1 ho1 hW
  go_upto_region 3 with fail
  have hbX : Below W1.heap.size W1 W1.drew := (Below.refl _ W1).drew
  refine wp_region_held_drew (S := fun W' => Below W1.heap.size W1 W') (by kernel_rfl) ?_ (fun hHeld => ?_)
  · exact hbX
  refine tkH (v := ?_) 0 ⟨some 11, _, _, _, _, _⟩ rfl (Or.inl ⟨by rfl, ?_⟩) ?_
  rotate_left
  · intro w hSw; (try dsimp only at hSw); go_simp; try (with_reducible rfl)
  try simp only [Act.put, nz1, nz2, nz3]
  refine tkH (v := ?_) 1 ⟨some 12, _, _, _, _, _⟩ rfl (Or.inl ⟨by rfl, ?_⟩) ?_
  rotate_left
  · intro w hSw; (try dsimp only at hSw); go_simp; try (with_reducible rfl)
  try simp only [Act.put, nz1, nz2, nz3]
  refine tkH (v := ?_) 2 ⟨some 13, _, _, _, _, _⟩ rfl (Or.inl ⟨by rfl, ?_⟩) ?_
  rotate_left
  · intro w hSw; (try dsimp only at hSw); go_simp; try (with_reducible rfl)
  try simp only [Act.put, nz1, nz2, nz3]
  refine tkH (v := ?_) 3 ⟨some 14, _, _, _, _, _⟩ rfl (Or.inl ⟨by rfl, ?_⟩) ?_
  rotate_left
  · intro w hSw; (try dsimp only at hSw); go_simp; try (with_reducible rfl)
  try simp only [Act.put, nz1, nz2, nz3]
  refine tkH (v := (.int .i64 (k : Int))) 4 ⟨some 15, _, _, _, _, _⟩ rfl (yields_one (by rfl) 3 _ rfl ⟨B, 3, none⟩ rfl _ _ (fun W' hS => HC3.out W' hS) Try.underlying3 rfl) ?_
  try simp only [Act.put, nz1, nz2, nz3]
  refine tkH (v := ?_) 5 ⟨some 16, _, _, _, _, _⟩ rfl (Or.inl ⟨by rfl, ?_⟩) ?_
  rotate_left
  · intro w hSw; (try dsimp only at hSw); go_simp; try (with_reducible rfl)
  try simp only [Act.put, nz1, nz2, nz3]
  refine tkH (v := ?_) 6 ⟨some 17, _, _, _, _, _⟩ rfl (Or.inl ⟨by rfl, ?_⟩) ?_
  rotate_left
  · intro w hSw; (try dsimp only at hSw); go_simp; try (with_reducible rfl)
  try simp only [Act.put, nz1, nz2, nz3]
  refine tkH (v := ?_) 7 ⟨some 18, _, _, _, _, _⟩ rfl (Or.inl ⟨by rfl, ?_⟩) ?_
  rotate_left
  · intro w hSw; (try dsimp only at hSw); go_simp; try (with_reducible rfl)
  try simp only [Act.put, nz1, nz2, nz3]
  refine tkH (v := (.agg (offC (s.offers k)).toArray)) 8 ⟨some 19, _, _, _, _, _⟩ rfl (yields_run (by rfl) 127 _ rfl (.pointer (some ⟨B, 104 + k * 34, none⟩)) _ rfl (fun W' hS => HLO.out W' hS)) ?_
  try simp only [Act.put, nz1, nz2, nz3]
  refine wpAnyH_ready (rs := [9]) (by kernel_rfl) (by simp) ?_
  refine (AllReadyH.cons (o := ⟨some 4, _, _, _, _, _⟩) rfl (fun K hK => ?_) AllReadyH.nil)
  (try rw [if_pos (by rfl)])
  go_simp
  generalize hW2 : World.alloc _ _ = W2
  have hb2 : Below W1.heap.size W1 W2 := by rw [← hW2]; exact (Below.refl _ W1).alloc (Nat.le_refl _) _
  obtain ⟨old2, hk2', ho2⟩ : ∃ old2, Blk W2 W1.heap.size 127 old2 ∧ old2.size = 34 := by rw [← hW2]; exact ⟨_, Blk.newAt _ _ rfl rfl, rfl⟩
  have hk2 := hk2'.drew
  replace hbX := hb2.drew
  clear hW2 hk2'
  try dsimp only
  refine hK.out _ _ (hbX) (fun hHeld => ?_)
  clear hK K
  try simp only [Act.put, nz1, nz2, nz3]
  refine wpAnyH_ready (rs := [10]) (by kernel_rfl) (by simp) ?_
  refine (AllReadyH.cons (o := ⟨none, _, _, _, _, _⟩) rfl (fun K hK => ?_) AllReadyH.nil)
  (try rw [if_pos (by rfl)])
  refine oper_store_own 127 34 _ _ rfl W1.heap.size (offC (s.offers k)) (offC_length HOI.out) (offC_one _) rfl rfl 127 _ hk2 ho2 offer_info ?_
  intro W3 hk3 hg3 hz3
  replace hbX := hbX.trans (below_of_grown hg3 (Nat.le_refl _) (by have := hk2.lt; omega))
  try dsimp only
  refine hK.out _ _ (hbX) (fun hHeld => ?_)
  clear hK K
  try simp only [Act.put]
  refine wpAnyH_done (by kernel_rfl) ?_ _
  have HBW : Hid (Below W.heap.size W W3) := Lib.hid (HB1.out.trans (hbX.mono HB1.out.size))
  have HK6 : Hid (Blk W3 W.heap.size 24 old) := Lib.hid (HK1.out.below hbX HK1.out.lt)
  have HR3 := Lib.hid (HR.out.below HBW.out)
  have hbZ : Below W3.heap.size W3 W3 := Below.refl _ _
  have HKO := Lib.hid hk3
  have HVDX := Lib.hid (trivial)
  clear hbX hk3 hg3 hz3 hk2 ho2 hb2 c4
  have hbX := hbZ
  clear hbZ
  have HLI : Hid (∀ W', Below W3.heap.size W3 W' → (Instr.loadAt 24 (.pointer (some ⟨W1.heap.size, 2, none⟩))).run Try.prog W' = .ok (idv (s.offers k).id) W') := Lib.hid fun W' hb => load_offid (HKO.out.below hb HKO.out.lt) HOI.out
  have HLOF : Hid (∀ W', Below W3.heap.size W3 W' → (Instr.loadAt 127 (.pointer (some ⟨W1.heap.size, 0, none⟩))).run Try.prog W' = .ok (.agg (offC (s.offers k)).toArray) W') := Lib.hid fun W' hb => load_off (HKO.out.below hb HKO.out.lt) HOI.out
  have HNI : Hid (∀ W', Below W3.heap.size W3 W' → Calls Try.prog 35 #[] W' fun e w' => e = .returned (idv nilId) ∧ Below W'.heap.size W' w') := Lib.hid fun W' _ => nil_any W'
  have HKN : Hid (∀ W', Below W3.heap.size W3 W' → Calls Try.prog 69 #[.pointer (some ⟨B, 0, none⟩), .agg (idC (s.offers k).id)] W' fun e w' => e = .returned (.bool (hasI s.known (s.offers k).id)) ∧ Below W'.heap.size W' w') := Lib.hid fun W' hb => knows_any (HR3.out.below hb) _ HOI.out
  have HT := Lib.hid ht
  clear ht
  have c0 : W3.cell? ⟨W1.heap.size, 0, none⟩ = some (.bool false) := by rw [HKO.out.cell, List.getElem?_toArray]; show some (Value.bool (s.offers k).there) = _; rw [HT.out]
  go_wp2_with (first
    | (guard_target = wpList _ _ _ (Oper.mk _ (.build 24 _) _ _ _ _ :: _) _ _; refine wpList_build_zero rfl rfl ?_)
    | (guard_target = wpList _ _ _ (Oper.mk _ (.store 24 _ _) _ _ _ _ :: _) _ _; refine wpList_store_idv rfl _ _ rfl W.heap.size (zeroId) rfl rfl zeroId_ok 24 _ (HK6.out.below hbX HK6.out.lt) HO1.out ?_; intro W9 hS9 hz9 hb9 hk9))
  refine bodyPost_ret (results_cell_tmp (p := 2) (q := 3) rfl _ _ W.heap.size 24 (idC (zeroId)) _ rfl hS9 Try.underlying24 rfl (by rw [idC_size zeroId_ok]; exact id_info)) rfl ?_
  exact ⟨by rw [HFIN.out]; rfl, (HBW.out.trans (hbX.mono HBW.out.size)).trans hb9⟩
set_option maxRecDepth 100000 in
set_option maxHeartbeats 8000000 in
theorem choice_unknown {W : World} {B C M n : Nat} {kv : Value} {s : RdS} (h : RoundAt W B C M n kv s) (k : Nat) (hk : s.round = (k : Int)) (hk12 : k < 12) (hs : s.step = 0) (ht : (s.offers k).there = true) (hkn2 : hasI s.known (s.offers k).id = false) : Calls Try.prog 77 #[.pointer (some ⟨B, 0, none⟩)] W fun e w' => e = .returned (.tuple #[idv ((choiceS s).getD zeroId), .bool (choiceS s).isSome]) ∧ Below W.heap.size W w' := by
  have HFIN : Hid (choiceS s = none) := Lib.hid (by
    unfold choiceS
    rw [if_neg (fun e => e hs)]
    dsimp only
    rw [hk, Int.toNat_natCast]
    rw [if_pos (.inr hkn2)])
  have HR := Lib.hid h
  have HOI : Hid (IdOk (s.offers k).id) := Lib.hid (h.ok.offers k hk12).1
  have HVD : Hid (0 ≤ (s.offers k).valid ∧ (s.offers k).valid ≤ (k : Int)) := Lib.hid (h.ok.offers k hk12).2
  clear h
  go_enter Try.func77, Try.ntmps77
  go_upto_region 1 with fail
  generalize hW : World.alloc _ _ = W1
  have hb1 : Below W.heap.size W W1 := by rw [← hW]; exact (Below.refl _ _).alloc (Nat.le_refl _) _
  obtain ⟨old, hk1, ho1⟩ : ∃ old, Blk W1 W.heap.size 24 old ∧ old.size = 32 := by rw [← hW]; exact ⟨_, Blk.newAt _ _ rfl rfl, rfl⟩
  have HO1 := Lib.hid ho1
  have HB1 := Lib.hid hb1
  have HK1 := Lib.hid hk1
  have c4 : W1.cell? ⟨B, 4, none⟩ = some (.int .i64 0) := by rw [(HR.out.below hb1).cell (i := 4) (by omega)]; show some (Value.int .i64 s.step) = _; rw [hs]
  have HC3 : Hid (∀ W', Below W1.heap.size W1 W' → W'.cell? ⟨B, 3, none⟩ = some (.int .i64 (k : Int))) := Lib.hid fun W' hb => by rw [(HR.out.below (hb1.trans (hb.mono hb1.size))).cell (i := 3) (by omega)]; show some (Value.int .i64 s.round) = _; rw [hk]
  have HLO : Hid (∀ W', Below W1.heap.size W1 W' → (Instr.loadAt 127 (.pointer (some ⟨B, 104 + k * 34, none⟩))).run Try.prog W' = .ok (.agg (offC (s.offers k)).toArray) W') := Lib.hid fun W' hb => load_offer (HR.out.below (hb1.trans (hb.mono hb1.size))) hk12
  have hkn : (k : Int) < 12 := by omega
  clear hb1 hk1 ho1 hW
  go_upto_region 3 with fail
  have hbX : Below W1.heap.size W1 W1.drew := (Below.refl _ W1).drew
  refine wp_region_held_drew (S := fun W' => Below W1.heap.size W1 W') (by kernel_rfl) ?_ (fun hHeld => ?_)
  · exact hbX
  refine tkH (v := ?_) 0 ⟨some 11, _, _, _, _, _⟩ rfl (Or.inl ⟨by rfl, ?_⟩) ?_
  rotate_left
  · intro w hSw; (try dsimp only at hSw); go_simp; try (with_reducible rfl)
  try simp only [Act.put, nz1, nz2, nz3]
  refine tkH (v := ?_) 1 ⟨some 12, _, _, _, _, _⟩ rfl (Or.inl ⟨by rfl, ?_⟩) ?_
  rotate_left
  · intro w hSw; (try dsimp only at hSw); go_simp; try (with_reducible rfl)
  try simp only [Act.put, nz1, nz2, nz3]
  refine tkH (v := ?_) 2 ⟨some 13, _, _, _, _, _⟩ rfl (Or.inl ⟨by rfl, ?_⟩) ?_
  rotate_left
  · intro w hSw; (try dsimp only at hSw); go_simp; try (with_reducible rfl)
  try simp only [Act.put, nz1, nz2, nz3]
  refine tkH (v := ?_) 3 ⟨some 14, _, _, _, _, _⟩ rfl (Or.inl ⟨by rfl, ?_⟩) ?_
  rotate_left
  · intro w hSw; (try dsimp only at hSw); go_simp; try (with_reducible rfl)
  try simp only [Act.put, nz1, nz2, nz3]
  refine tkH (v := (.int .i64 (k : Int))) 4 ⟨some 15, _, _, _, _, _⟩ rfl (yields_one (by rfl) 3 _ rfl ⟨B, 3, none⟩ rfl _ _ (fun W' hS => HC3.out W' hS) Try.underlying3 rfl) ?_
  try simp only [Act.put, nz1, nz2, nz3]
  refine tkH (v := ?_) 5 ⟨some 16, _, _, _, _, _⟩ rfl (Or.inl ⟨by rfl, ?_⟩) ?_
  rotate_left
  · intro w hSw; (try dsimp only at hSw); go_simp; try (with_reducible rfl)
  try simp only [Act.put, nz1, nz2, nz3]
  refine tkH (v := ?_) 6 ⟨some 17, _, _, _, _, _⟩ rfl (Or.inl ⟨by rfl, ?_⟩) ?_
  rotate_left
  · intro w hSw; (try dsimp only at hSw); go_simp; try (with_reducible rfl)
  try simp only [Act.put, nz1, nz2, nz3]
  refine tkH (v := ?_) 7 ⟨some 18, _, _, _, _, _⟩ rfl (Or.inl ⟨by rfl, ?_⟩) ?_
  rotate_left
  · intro w hSw; (try dsimp only at hSw); go_simp; try (with_reducible rfl)
  try simp only [Act.put, nz1, nz2, nz3]
  refine tkH (v := (.agg (offC (s.offers k)).toArray)) 8 ⟨some 19, _, _, _, _, _⟩ rfl (yields_run (by rfl) 127 _ rfl (.pointer (some ⟨B, 104 + k * 34, none⟩)) _ rfl (fun W' hS => HLO.out W' hS)) ?_
  try simp only [Act.put, nz1, nz2, nz3]
  refine wpAnyH_ready (rs := [9]) (by kernel_rfl) (by simp) ?_
  refine (AllReadyH.cons (o := ⟨some 4, _, _, _, _, _⟩) rfl (fun K hK => ?_) AllReadyH.nil)
  (try rw [if_pos (by rfl)])
  go_simp
  generalize hW2 : World.alloc _ _ = W2
  have hb2 : Below W1.heap.size W1 W2 := by rw [← hW2]; exact (Below.refl _ W1).alloc (Nat.le_refl _) _
  obtain ⟨old2, hk2', ho2⟩ : ∃ old2, Blk W2 W1.heap.size 127 old2 ∧ old2.size = 34 := by rw [← hW2]; exact ⟨_, Blk.newAt _ _ rfl rfl, rfl⟩
  have hk2 := hk2'.drew
  replace hbX := hb2.drew
  clear hW2 hk2'
  try dsimp only
  refine hK.out _ _ (hbX) (fun hHeld => ?_)
  clear hK K
  try simp only [Act.put, nz1, nz2, nz3]
  refine wpAnyH_ready (rs := [10]) (by kernel_rfl) (by simp) ?_
  refine (AllReadyH.cons (o := ⟨none, _, _, _, _, _⟩) rfl (fun K hK => ?_) AllReadyH.nil)
  (try rw [if_pos (by rfl)])
  refine oper_store_own 127 34 _ _ rfl W1.heap.size (offC (s.offers k)) (offC_length HOI.out) (offC_one _) rfl rfl 127 _ hk2 ho2 offer_info ?_
  intro W3 hk3 hg3 hz3
  replace hbX := hbX.trans (below_of_grown hg3 (Nat.le_refl _) (by have := hk2.lt; omega))
  try dsimp only
  refine hK.out _ _ (hbX) (fun hHeld => ?_)
  clear hK K
  try simp only [Act.put]
  refine wpAnyH_done (by kernel_rfl) ?_ _
  have HBW : Hid (Below W.heap.size W W3) := Lib.hid (HB1.out.trans (hbX.mono HB1.out.size))
  have HK6 : Hid (Blk W3 W.heap.size 24 old) := Lib.hid (HK1.out.below hbX HK1.out.lt)
  have HR3 := Lib.hid (HR.out.below HBW.out)
  have hbZ : Below W3.heap.size W3 W3 := Below.refl _ _
  have HKO := Lib.hid hk3
  have HVDX := Lib.hid (trivial)
  clear hbX hk3 hg3 hz3 hk2 ho2 hb2 c4
  have hbX := hbZ
  clear hbZ
  have HLI : Hid (∀ W', Below W3.heap.size W3 W' → (Instr.loadAt 24 (.pointer (some ⟨W1.heap.size, 2, none⟩))).run Try.prog W' = .ok (idv (s.offers k).id) W') := Lib.hid fun W' hb => load_offid (HKO.out.below hb HKO.out.lt) HOI.out
  have HLOF : Hid (∀ W', Below W3.heap.size W3 W' → (Instr.loadAt 127 (.pointer (some ⟨W1.heap.size, 0, none⟩))).run Try.prog W' = .ok (.agg (offC (s.offers k)).toArray) W') := Lib.hid fun W' hb => load_off (HKO.out.below hb HKO.out.lt) HOI.out
  have HNI : Hid (∀ W', Below W3.heap.size W3 W' → Calls Try.prog 35 #[] W' fun e w' => e = .returned (idv nilId) ∧ Below W'.heap.size W' w') := Lib.hid fun W' _ => nil_any W'
  have HKN : Hid (∀ W', Below W3.heap.size W3 W' → Calls Try.prog 69 #[.pointer (some ⟨B, 0, none⟩), .agg (idC (s.offers k).id)] W' fun e w' => e = .returned (.bool (hasI s.known (s.offers k).id)) ∧ Below W'.heap.size W' w') := Lib.hid fun W' hb => knows_any (HR3.out.below hb) _ HOI.out
  have HT := Lib.hid ht
  clear ht
  have c0 : W3.cell? ⟨W1.heap.size, 0, none⟩ = some (.bool true) := by rw [HKO.out.cell, List.getElem?_toArray]; show some (Value.bool (s.offers k).there) = _; rw [HT.out]
  rw [hkn2] at HKN
  clear hkn2
  go_wp2_with (first
    | (guard_target = wpList _ _ _ (Oper.mk _ (.load 24 (.tmp 27)) _ _ _ _ :: _) _ _; refine wpList_load_runS (by rfl) 24 _ rfl _ _ rfl (HLI.out _ hbX) ?_)
    | (go_at_call 69; refine (HKN.out _ hbX).mono ?_; rintro e Wn ⟨rfl, hbn⟩; replace hbX := hbX.trans (hbn.mono hbX.size); clear hbn)
    | (guard_target = wpList _ _ _ (Oper.mk _ (.build 24 _) _ _ _ _ :: _) _ _; refine wpList_build_zero rfl rfl ?_)
    | (guard_target = wpList _ _ _ (Oper.mk _ (.store 24 _ _) _ _ _ _ :: _) _ _; refine wpList_store_idv rfl _ _ rfl W.heap.size (zeroId) rfl rfl zeroId_ok 24 _ (HK6.out.below hbX HK6.out.lt) HO1.out ?_; intro W9 hS9 hz9 hb9 hk9))
  refine bodyPost_ret (results_cell_tmp (p := 2) (q := 3) rfl _ _ W.heap.size 24 (idC (zeroId)) _ rfl hS9 Try.underlying24 rfl (by rw [idC_size zeroId_ok]; exact id_info)) rfl ?_
  exact ⟨by rw [HFIN.out]; rfl, (HBW.out.trans (hbX.mono HBW.out.size)).trans hb9⟩
set_option maxRecDepth 100000 in
set_option maxHeartbeats 8000000 in
theorem choice_above {W : World} {B C M n : Nat} {kv : Value} {s : RdS} (h : RoundAt W B C M n kv s) (k : Nat) (hk : s.round = (k : Int)) (hk12 : k < 12) (hs : s.step = 0) (ht : (s.offers k).there = true) (hkn2 : hasI s.known (s.offers k).id = true) (vd : Int) (hvv : (s.offers k).valid = vd) (hab : (k : Int) < vd) : Calls Try.prog 77 #[.pointer (some ⟨B, 0, none⟩)] W fun e w' => e = .returned (.tuple #[idv ((choiceS s).getD zeroId), .bool (choiceS s).isSome]) ∧ Below W.heap.size W w' := by
  have HFIN : Hid (choiceS s = some nilId) := Lib.hid (by
    unfold choiceS
    rw [if_neg (fun e => e hs)]
    dsimp only
    rw [hk, Int.toNat_natCast]
    rw [if_neg (fun e => by rcases e with e | e <;> simp_all)]; rw [hvv]; rw [if_pos hab])
  have HR := Lib.hid h
  have HOI : Hid (IdOk (s.offers k).id) := Lib.hid (h.ok.offers k hk12).1
  have HVD : Hid (0 ≤ (s.offers k).valid ∧ (s.offers k).valid ≤ (k : Int)) := Lib.hid (h.ok.offers k hk12).2
  clear h
  go_enter Try.func77, Try.ntmps77
  go_upto_region 1 with fail
  generalize hW : World.alloc _ _ = W1
  have hb1 : Below W.heap.size W W1 := by rw [← hW]; exact (Below.refl _ _).alloc (Nat.le_refl _) _
  obtain ⟨old, hk1, ho1⟩ : ∃ old, Blk W1 W.heap.size 24 old ∧ old.size = 32 := by rw [← hW]; exact ⟨_, Blk.newAt _ _ rfl rfl, rfl⟩
  have HO1 := Lib.hid ho1
  have HB1 := Lib.hid hb1
  have HK1 := Lib.hid hk1
  have c4 : W1.cell? ⟨B, 4, none⟩ = some (.int .i64 0) := by rw [(HR.out.below hb1).cell (i := 4) (by omega)]; show some (Value.int .i64 s.step) = _; rw [hs]
  have HC3 : Hid (∀ W', Below W1.heap.size W1 W' → W'.cell? ⟨B, 3, none⟩ = some (.int .i64 (k : Int))) := Lib.hid fun W' hb => by rw [(HR.out.below (hb1.trans (hb.mono hb1.size))).cell (i := 3) (by omega)]; show some (Value.int .i64 s.round) = _; rw [hk]
  have HLO : Hid (∀ W', Below W1.heap.size W1 W' → (Instr.loadAt 127 (.pointer (some ⟨B, 104 + k * 34, none⟩))).run Try.prog W' = .ok (.agg (offC (s.offers k)).toArray) W') := Lib.hid fun W' hb => load_offer (HR.out.below (hb1.trans (hb.mono hb1.size))) hk12
  have hkn : (k : Int) < 12 := by omega
  clear hb1 hk1 ho1 hW
  go_upto_region 3 with fail
  have hbX : Below W1.heap.size W1 W1.drew := (Below.refl _ W1).drew
  refine wp_region_held_drew (S := fun W' => Below W1.heap.size W1 W') (by kernel_rfl) ?_ (fun hHeld => ?_)
  · exact hbX
  refine tkH (v := ?_) 0 ⟨some 11, _, _, _, _, _⟩ rfl (Or.inl ⟨by rfl, ?_⟩) ?_
  rotate_left
  · intro w hSw; (try dsimp only at hSw); go_simp; try (with_reducible rfl)
  try simp only [Act.put, nz1, nz2, nz3]
  refine tkH (v := ?_) 1 ⟨some 12, _, _, _, _, _⟩ rfl (Or.inl ⟨by rfl, ?_⟩) ?_
  rotate_left
  · intro w hSw; (try dsimp only at hSw); go_simp; try (with_reducible rfl)
  try simp only [Act.put, nz1, nz2, nz3]
  refine tkH (v := ?_) 2 ⟨some 13, _, _, _, _, _⟩ rfl (Or.inl ⟨by rfl, ?_⟩) ?_
  rotate_left
  · intro w hSw; (try dsimp only at hSw); go_simp; try (with_reducible rfl)
  try simp only [Act.put, nz1, nz2, nz3]
  refine tkH (v := ?_) 3 ⟨some 14, _, _, _, _, _⟩ rfl (Or.inl ⟨by rfl, ?_⟩) ?_
  rotate_left
  · intro w hSw; (try dsimp only at hSw); go_simp; try (with_reducible rfl)
  try simp only [Act.put, nz1, nz2, nz3]
  refine tkH (v := (.int .i64 (k : Int))) 4 ⟨some 15, _, _, _, _, _⟩ rfl (yields_one (by rfl) 3 _ rfl ⟨B, 3, none⟩ rfl _ _ (fun W' hS => HC3.out W' hS) Try.underlying3 rfl) ?_
  try simp only [Act.put, nz1, nz2, nz3]
  refine tkH (v := ?_) 5 ⟨some 16, _, _, _, _, _⟩ rfl (Or.inl ⟨by rfl, ?_⟩) ?_
  rotate_left
  · intro w hSw; (try dsimp only at hSw); go_simp; try (with_reducible rfl)
  try simp only [Act.put, nz1, nz2, nz3]
  refine tkH (v := ?_) 6 ⟨some 17, _, _, _, _, _⟩ rfl (Or.inl ⟨by rfl, ?_⟩) ?_
  rotate_left
  · intro w hSw; (try dsimp only at hSw); go_simp; try (with_reducible rfl)
  try simp only [Act.put, nz1, nz2, nz3]
  refine tkH (v := ?_) 7 ⟨some 18, _, _, _, _, _⟩ rfl (Or.inl ⟨by rfl, ?_⟩) ?_
  rotate_left
  · intro w hSw; (try dsimp only at hSw); go_simp; try (with_reducible rfl)
  try simp only [Act.put, nz1, nz2, nz3]
  refine tkH (v := (.agg (offC (s.offers k)).toArray)) 8 ⟨some 19, _, _, _, _, _⟩ rfl (yields_run (by rfl) 127 _ rfl (.pointer (some ⟨B, 104 + k * 34, none⟩)) _ rfl (fun W' hS => HLO.out W' hS)) ?_
  try simp only [Act.put, nz1, nz2, nz3]
  refine wpAnyH_ready (rs := [9]) (by kernel_rfl) (by simp) ?_
  refine (AllReadyH.cons (o := ⟨some 4, _, _, _, _, _⟩) rfl (fun K hK => ?_) AllReadyH.nil)
  (try rw [if_pos (by rfl)])
  go_simp
  generalize hW2 : World.alloc _ _ = W2
  have hb2 : Below W1.heap.size W1 W2 := by rw [← hW2]; exact (Below.refl _ W1).alloc (Nat.le_refl _) _
  obtain ⟨old2, hk2', ho2⟩ : ∃ old2, Blk W2 W1.heap.size 127 old2 ∧ old2.size = 34 := by rw [← hW2]; exact ⟨_, Blk.newAt _ _ rfl rfl, rfl⟩
  have hk2 := hk2'.drew
  replace hbX := hb2.drew
  clear hW2 hk2'
  try dsimp only
  refine hK.out _ _ (hbX) (fun hHeld => ?_)
  clear hK K
  try simp only [Act.put, nz1, nz2, nz3]
  refine wpAnyH_ready (rs := [10]) (by kernel_rfl) (by simp) ?_
  refine (AllReadyH.cons (o := ⟨none, _, _, _, _, _⟩) rfl (fun K hK => ?_) AllReadyH.nil)
  (try rw [if_pos (by rfl)])
  refine oper_store_own 127 34 _ _ rfl W1.heap.size (offC (s.offers k)) (offC_length HOI.out) (offC_one _) rfl rfl 127 _ hk2 ho2 offer_info ?_
  intro W3 hk3 hg3 hz3
  replace hbX := hbX.trans (below_of_grown hg3 (Nat.le_refl _) (by have := hk2.lt; omega))
  try dsimp only
  refine hK.out _ _ (hbX) (fun hHeld => ?_)
  clear hK K
  try simp only [Act.put]
  refine wpAnyH_done (by kernel_rfl) ?_ _
  have HBW : Hid (Below W.heap.size W W3) := Lib.hid (HB1.out.trans (hbX.mono HB1.out.size))
  have HK6 : Hid (Blk W3 W.heap.size 24 old) := Lib.hid (HK1.out.below hbX HK1.out.lt)
  have HR3 := Lib.hid (HR.out.below HBW.out)
  have hbZ : Below W3.heap.size W3 W3 := Below.refl _ _
  have HKO := Lib.hid hk3
  have HVDX := Lib.hid (trivial)
  clear hbX hk3 hg3 hz3 hk2 ho2 hb2 c4
  have hbX := hbZ
  clear hbZ
  have HLI : Hid (∀ W', Below W3.heap.size W3 W' → (Instr.loadAt 24 (.pointer (some ⟨W1.heap.size, 2, none⟩))).run Try.prog W' = .ok (idv (s.offers k).id) W') := Lib.hid fun W' hb => load_offid (HKO.out.below hb HKO.out.lt) HOI.out
  have HLOF : Hid (∀ W', Below W3.heap.size W3 W' → (Instr.loadAt 127 (.pointer (some ⟨W1.heap.size, 0, none⟩))).run Try.prog W' = .ok (.agg (offC (s.offers k)).toArray) W') := Lib.hid fun W' hb => load_off (HKO.out.below hb HKO.out.lt) HOI.out
  have HNI : Hid (∀ W', Below W3.heap.size W3 W' → Calls Try.prog 35 #[] W' fun e w' => e = .returned (idv nilId) ∧ Below W'.heap.size W' w') := Lib.hid fun W' _ => nil_any W'
  have HKN : Hid (∀ W', Below W3.heap.size W3 W' → Calls Try.prog 69 #[.pointer (some ⟨B, 0, none⟩), .agg (idC (s.offers k).id)] W' fun e w' => e = .returned (.bool (hasI s.known (s.offers k).id)) ∧ Below W'.heap.size W' w') := Lib.hid fun W' hb => knows_any (HR3.out.below hb) _ HOI.out
  have HT := Lib.hid ht
  clear ht
  have c0 : W3.cell? ⟨W1.heap.size, 0, none⟩ = some (.bool true) := by rw [HKO.out.cell, List.getElem?_toArray]; show some (Value.bool (s.offers k).there) = _; rw [HT.out]
  rw [hkn2] at HKN
  have HVV := Lib.hid hvv
  have HC1 : Hid (∀ W', Below W3.heap.size W3 W' → W'.cell? ⟨W1.heap.size, 1, none⟩ = some (.int .i64 vd)) := Lib.hid fun W' hb => by rw [(HKO.out.below hb HKO.out.lt).cell, List.getElem?_toArray]; show some (Value.int .i64 (s.offers k).valid) = _; rw [HVV.out]
  have c1 := HC1.out W3 (Below.refl _ _)
  clear hkn2 hvv
  have HC3b : Hid (∀ W', Below W3.heap.size W3 W' → W'.cell? ⟨B, 3, none⟩ = some (.int .i64 (k : Int))) := Lib.hid fun W' hb => by rw [(HR3.out.below hb).cell (i := 3) (by omega)]; show some (Value.int .i64 s.round) = _; rw [hk]
  go_upto_region 8 with (first
    | (guard_target = wpList _ _ _ (Oper.mk _ (.load 24 (.tmp 27)) _ _ _ _ :: _) _ _; refine wpList_load_runS (by rfl) 24 _ rfl _ _ rfl (HLI.out _ hbX) ?_)
    | (go_at_call 69; refine (HKN.out _ hbX).mono ?_; rintro e Wn ⟨rfl, hbn⟩; replace hbX := hbX.trans (hbn.mono hbX.size); clear hbn))
  replace hbX := hbX.drew
  refine wp_region_held_drew (S := fun W' => Below W3.heap.size W3 W') (by kernel_rfl) ?_ (fun hHeld => ?_)
  · exact hbX
  refine tkH (v := ?_) 0 ⟨some 33, _, _, _, _, _⟩ rfl (Or.inl ⟨by rfl, ?_⟩) ?_
  rotate_left
  · intro w hSw; (try dsimp only at hSw); go_simp; try (with_reducible rfl)
  try simp only [Act.put, nz1, nz2, nz3]
  refine tkH (v := (.int .i64 vd)) 1 ⟨some 34, _, _, _, _, _⟩ rfl (yields_one (by rfl) 3 _ rfl ⟨W1.heap.size, 1, none⟩ rfl _ _ (fun W' hS => HC1.out W' hS) Try.underlying3 rfl) ?_
  try simp only [Act.put, nz1, nz2, nz3]
  refine tkH (v := ?_) 2 ⟨some 35, _, _, _, _, _⟩ rfl (Or.inl ⟨by rfl, ?_⟩) ?_
  rotate_left
  · intro w hSw; (try dsimp only at hSw); go_simp; try (with_reducible rfl)
  try simp only [Act.put, nz1, nz2, nz3]
  refine tkH (v := ?_) 3 ⟨some 36, _, _, _, _, _⟩ rfl (Or.inl ⟨by rfl, ?_⟩) ?_
  rotate_left
  · intro w hSw; (try dsimp only at hSw); go_simp; try (with_reducible rfl)
  try simp only [Act.put, nz1, nz2, nz3]
  refine tkH (v := ?_) 4 ⟨some 37, _, _, _, _, _⟩ rfl (Or.inl ⟨by rfl, ?_⟩) ?_
  rotate_left
  · intro w hSw; (try dsimp only at hSw); go_simp; try (with_reducible rfl)
  try simp only [Act.put, nz1, nz2, nz3]
  refine tkH (v := (.int .i64 (k : Int))) 5 ⟨some 38, _, _, _, _, _⟩ rfl (yields_one (by rfl) 3 _ rfl ⟨B, 3, none⟩ rfl _ _ (fun W' hS => HC3b.out W' hS) Try.underlying3 rfl) ?_
  try simp only [Act.put, nz1, nz2, nz3]
  refine tkH (v := ?_) 6 ⟨some 39, _, _, _, _, _⟩ rfl (Or.inl ⟨by rfl, ?_⟩) ?_
  rotate_left
  · intro w hSw; (try dsimp only at hSw); go_simp; try (with_reducible rfl)
  try simp only [Act.put, nz1, nz2, nz3]
  refine tkH (v := ?_) 7 ⟨some 32, _, _, _, _, _⟩ rfl (Or.inl ⟨by rfl, ?_⟩) ?_
  rotate_left
  · intro w hSw; (try dsimp only at hSw); go_simp; try (with_reducible rfl)
  try simp only [Act.put, nz1, nz2, nz3]
  refine wpAnyH_done (by kernel_rfl) ?_ _
  go_wp2_with (first
    | (go_at_call 35; refine (HNI.out _ hbX).mono ?_; rintro e Wn ⟨rfl, hbn⟩; replace hbX := hbX.trans (hbn.mono hbX.size); clear hbn)
    | (guard_target = wpList _ _ _ (Oper.mk _ (.store 24 _ _) _ _ _ _ :: _) _ _; refine wpList_store_idv rfl _ _ rfl W.heap.size (nilId) rfl rfl nilId_ok 24 _ (HK6.out.below hbX HK6.out.lt) HO1.out ?_; intro W9 hS9 hz9 hb9 hk9))
  refine bodyPost_ret (results_cell_tmp (p := 2) (q := 3) rfl _ _ W.heap.size 24 (idC (nilId)) _ rfl hS9 Try.underlying24 rfl (by rw [idC_size nilId_ok]; exact id_info)) rfl ?_
  exact ⟨by rw [HFIN.out]; rfl, (HBW.out.trans (hbX.mono HBW.out.size)).trans hb9⟩
set_option maxRecDepth 100000 in
set_option maxHeartbeats 8000000 in
theorem choice_unbacked {W : World} {B C M n : Nat} {kv : Value} {s : RdS} (h : RoundAt W B C M n kv s) (k : Nat) (hk : s.round = (k : Int)) (hk12 : k < 12) (hs : s.step = 0) (ht : (s.offers k).there = true) (hkn2 : hasI s.known (s.offers k).id = true) (vd : Int) (hvv : (s.offers k).valid = vd) (hab : ¬ (k : Int) < vd) (hv0 : 0 < vd) (hbk : backedS s (s.offers k) = false) : Calls Try.prog 77 #[.pointer (some ⟨B, 0, none⟩)] W fun e w' => e = .returned (.tuple #[idv ((choiceS s).getD zeroId), .bool (choiceS s).isSome]) ∧ Below W.heap.size W w' := by
  have HFIN : Hid (choiceS s = none) := Lib.hid (by
    unfold choiceS
    rw [if_neg (fun e => e hs)]
    dsimp only
    rw [hk, Int.toNat_natCast]
    rw [if_neg (fun e => by rcases e with e | e <;> simp_all)]; rw [hvv]; rw [if_neg hab, if_pos ⟨hv0, hbk⟩])
  have HR := Lib.hid h
  have HOI : Hid (IdOk (s.offers k).id) := Lib.hid (h.ok.offers k hk12).1
  have HVD : Hid (0 ≤ (s.offers k).valid ∧ (s.offers k).valid ≤ (k : Int)) := Lib.hid (h.ok.offers k hk12).2
  clear h
  go_enter Try.func77, Try.ntmps77
  go_upto_region 1 with fail
  generalize hW : World.alloc _ _ = W1
  have hb1 : Below W.heap.size W W1 := by rw [← hW]; exact (Below.refl _ _).alloc (Nat.le_refl _) _
  obtain ⟨old, hk1, ho1⟩ : ∃ old, Blk W1 W.heap.size 24 old ∧ old.size = 32 := by rw [← hW]; exact ⟨_, Blk.newAt _ _ rfl rfl, rfl⟩
  have HO1 := Lib.hid ho1
  have HB1 := Lib.hid hb1
  have HK1 := Lib.hid hk1
  have c4 : W1.cell? ⟨B, 4, none⟩ = some (.int .i64 0) := by rw [(HR.out.below hb1).cell (i := 4) (by omega)]; show some (Value.int .i64 s.step) = _; rw [hs]
  have HC3 : Hid (∀ W', Below W1.heap.size W1 W' → W'.cell? ⟨B, 3, none⟩ = some (.int .i64 (k : Int))) := Lib.hid fun W' hb => by rw [(HR.out.below (hb1.trans (hb.mono hb1.size))).cell (i := 3) (by omega)]; show some (Value.int .i64 s.round) = _; rw [hk]
  have HLO : Hid (∀ W', Below W1.heap.size W1 W' → (Instr.loadAt 127 (.pointer (some ⟨B, 104 + k * 34, none⟩))).run Try.prog W' = .ok (.agg (offC (s.offers k)).toArray) W') := Lib.hid fun W' hb => load_offer (HR.out.below (hb1.trans (hb.mono hb1.size))) hk12
  have hkn : (k : Int) < 12 := by omega
  clear hb1 hk1 ho1 hW
  go_upto_region 3 with fail
  have hbX : Below W1.heap.size W1 W1.drew := (Below.refl _ W1).drew
  refine wp_region_held_drew (S := fun W' => Below W1.heap.size W1 W') (by kernel_rfl) ?_ (fun hHeld => ?_)
  · exact hbX
  refine tkH (v := ?_) 0 ⟨some 11, _, _, _, _, _⟩ rfl (Or.inl ⟨by rfl, ?_⟩) ?_
  rotate_left
  · intro w hSw; (try dsimp only at hSw); go_simp; try (with_reducible rfl)
  try simp only [Act.put, nz1, nz2, nz3]
  refine tkH (v := ?_) 1 ⟨some 12, _, _, _, _, _⟩ rfl (Or.inl ⟨by rfl, ?_⟩) ?_
  rotate_left
  · intro w hSw; (try dsimp only at hSw); go_simp; try (with_reducible rfl)
  try simp only [Act.put, nz1, nz2, nz3]
  refine tkH (v := ?_) 2 ⟨some 13, _, _, _, _, _⟩ rfl (Or.inl ⟨by rfl, ?_⟩) ?_
  rotate_left
  · intro w hSw; (try dsimp only at hSw); go_simp; try (with_reducible rfl)
  try simp only [Act.put, nz1, nz2, nz3]
  refine tkH (v := ?_) 3 ⟨some 14, _, _, _, _, _⟩ rfl (Or.inl ⟨by rfl, ?_⟩) ?_
  rotate_left
  · intro w hSw; (try dsimp only at hSw); go_simp; try (with_reducible rfl)
  try simp only [Act.put, nz1, nz2, nz3]
  refine tkH (v := (.int .i64 (k : Int))) 4 ⟨some 15, _, _, _, _, _⟩ rfl (yields_one (by rfl) 3 _ rfl ⟨B, 3, none⟩ rfl _ _ (fun W' hS => HC3.out W' hS) Try.underlying3 rfl) ?_
  try simp only [Act.put, nz1, nz2, nz3]
  refine tkH (v := ?_) 5 ⟨some 16, _, _, _, _, _⟩ rfl (Or.inl ⟨by rfl, ?_⟩) ?_
  rotate_left
  · intro w hSw; (try dsimp only at hSw); go_simp; try (with_reducible rfl)
  try simp only [Act.put, nz1, nz2, nz3]
  refine tkH (v := ?_) 6 ⟨some 17, _, _, _, _, _⟩ rfl (Or.inl ⟨by rfl, ?_⟩) ?_
  rotate_left
  · intro w hSw; (try dsimp only at hSw); go_simp; try (with_reducible rfl)
  try simp only [Act.put, nz1, nz2, nz3]
  refine tkH (v := ?_) 7 ⟨some 18, _, _, _, _, _⟩ rfl (Or.inl ⟨by rfl, ?_⟩) ?_
  rotate_left
  · intro w hSw; (try dsimp only at hSw); go_simp; try (with_reducible rfl)
  try simp only [Act.put, nz1, nz2, nz3]
  refine tkH (v := (.agg (offC (s.offers k)).toArray)) 8 ⟨some 19, _, _, _, _, _⟩ rfl (yields_run (by rfl) 127 _ rfl (.pointer (some ⟨B, 104 + k * 34, none⟩)) _ rfl (fun W' hS => HLO.out W' hS)) ?_
  try simp only [Act.put, nz1, nz2, nz3]
  refine wpAnyH_ready (rs := [9]) (by kernel_rfl) (by simp) ?_
  refine (AllReadyH.cons (o := ⟨some 4, _, _, _, _, _⟩) rfl (fun K hK => ?_) AllReadyH.nil)
  (try rw [if_pos (by rfl)])
  go_simp
  generalize hW2 : World.alloc _ _ = W2
  have hb2 : Below W1.heap.size W1 W2 := by rw [← hW2]; exact (Below.refl _ W1).alloc (Nat.le_refl _) _
  obtain ⟨old2, hk2', ho2⟩ : ∃ old2, Blk W2 W1.heap.size 127 old2 ∧ old2.size = 34 := by rw [← hW2]; exact ⟨_, Blk.newAt _ _ rfl rfl, rfl⟩
  have hk2 := hk2'.drew
  replace hbX := hb2.drew
  clear hW2 hk2'
  try dsimp only
  refine hK.out _ _ (hbX) (fun hHeld => ?_)
  clear hK K
  try simp only [Act.put, nz1, nz2, nz3]
  refine wpAnyH_ready (rs := [10]) (by kernel_rfl) (by simp) ?_
  refine (AllReadyH.cons (o := ⟨none, _, _, _, _, _⟩) rfl (fun K hK => ?_) AllReadyH.nil)
  (try rw [if_pos (by rfl)])
  refine oper_store_own 127 34 _ _ rfl W1.heap.size (offC (s.offers k)) (offC_length HOI.out) (offC_one _) rfl rfl 127 _ hk2 ho2 offer_info ?_
  intro W3 hk3 hg3 hz3
  replace hbX := hbX.trans (below_of_grown hg3 (Nat.le_refl _) (by have := hk2.lt; omega))
  try dsimp only
  refine hK.out _ _ (hbX) (fun hHeld => ?_)
  clear hK K
  try simp only [Act.put]
  refine wpAnyH_done (by kernel_rfl) ?_ _
  have HBW : Hid (Below W.heap.size W W3) := Lib.hid (HB1.out.trans (hbX.mono HB1.out.size))
  have HK6 : Hid (Blk W3 W.heap.size 24 old) := Lib.hid (HK1.out.below hbX HK1.out.lt)
  have HR3 := Lib.hid (HR.out.below HBW.out)
  have hbZ : Below W3.heap.size W3 W3 := Below.refl _ _
  have HKO := Lib.hid hk3
  have HVDX := Lib.hid (trivial)
  clear hbX hk3 hg3 hz3 hk2 ho2 hb2 c4
  have hbX := hbZ
  clear hbZ
  have HLI : Hid (∀ W', Below W3.heap.size W3 W' → (Instr.loadAt 24 (.pointer (some ⟨W1.heap.size, 2, none⟩))).run Try.prog W' = .ok (idv (s.offers k).id) W') := Lib.hid fun W' hb => load_offid (HKO.out.below hb HKO.out.lt) HOI.out
  have HLOF : Hid (∀ W', Below W3.heap.size W3 W' → (Instr.loadAt 127 (.pointer (some ⟨W1.heap.size, 0, none⟩))).run Try.prog W' = .ok (.agg (offC (s.offers k)).toArray) W') := Lib.hid fun W' hb => load_off (HKO.out.below hb HKO.out.lt) HOI.out
  have HNI : Hid (∀ W', Below W3.heap.size W3 W' → Calls Try.prog 35 #[] W' fun e w' => e = .returned (idv nilId) ∧ Below W'.heap.size W' w') := Lib.hid fun W' _ => nil_any W'
  have HKN : Hid (∀ W', Below W3.heap.size W3 W' → Calls Try.prog 69 #[.pointer (some ⟨B, 0, none⟩), .agg (idC (s.offers k).id)] W' fun e w' => e = .returned (.bool (hasI s.known (s.offers k).id)) ∧ Below W'.heap.size W' w') := Lib.hid fun W' hb => knows_any (HR3.out.below hb) _ HOI.out
  have HT := Lib.hid ht
  clear ht
  have c0 : W3.cell? ⟨W1.heap.size, 0, none⟩ = some (.bool true) := by rw [HKO.out.cell, List.getElem?_toArray]; show some (Value.bool (s.offers k).there) = _; rw [HT.out]
  rw [hkn2] at HKN
  have HVV := Lib.hid hvv
  have HC1 : Hid (∀ W', Below W3.heap.size W3 W' → W'.cell? ⟨W1.heap.size, 1, none⟩ = some (.int .i64 vd)) := Lib.hid fun W' hb => by rw [(HKO.out.below hb HKO.out.lt).cell, List.getElem?_toArray]; show some (Value.int .i64 (s.offers k).valid) = _; rw [HVV.out]
  have c1 := HC1.out W3 (Below.refl _ _)
  clear hkn2 hvv
  have HC3b : Hid (∀ W', Below W3.heap.size W3 W' → W'.cell? ⟨B, 3, none⟩ = some (.int .i64 (k : Int))) := Lib.hid fun W' hb => by rw [(HR3.out.below hb).cell (i := 3) (by omega)]; show some (Value.int .i64 s.round) = _; rw [hk]
  have HV0 := Lib.hid hv0
  have HK12 := Lib.hid hk12
  have HBK : Hid (∀ W', Below W3.heap.size W3 W' → Calls Try.prog 81 #[.pointer (some ⟨B, 0, none⟩), .agg (offC (s.offers k)).toArray] W' fun e w' => e = .returned (.bool (backedS s (s.offers k))) ∧ Below W'.heap.size W' w') := Lib.hid fun W' hb => backed_any (HR3.out.below hb) _ HOI.out ⟨by rw [HVV.out]; exact HV0.out, by have := HVD.out; have := HK12.out; omega⟩
  rw [hbk] at HBK
  clear hbk
  go_upto_region 8 with (first
    | (guard_target = wpList _ _ _ (Oper.mk _ (.load 24 (.tmp 27)) _ _ _ _ :: _) _ _; refine wpList_load_runS (by rfl) 24 _ rfl _ _ rfl (HLI.out _ hbX) ?_)
    | (go_at_call 69; refine (HKN.out _ hbX).mono ?_; rintro e Wn ⟨rfl, hbn⟩; replace hbX := hbX.trans (hbn.mono hbX.size); clear hbn))
  replace hbX := hbX.drew
  refine wp_region_held_drew (S := fun W' => Below W3.heap.size W3 W') (by kernel_rfl) ?_ (fun hHeld => ?_)
  · exact hbX
  refine tkH (v := ?_) 0 ⟨some 33, _, _, _, _, _⟩ rfl (Or.inl ⟨by rfl, ?_⟩) ?_
  rotate_left
  · intro w hSw; (try dsimp only at hSw); go_simp; try (with_reducible rfl)
  try simp only [Act.put, nz1, nz2, nz3]
  refine tkH (v := (.int .i64 vd)) 1 ⟨some 34, _, _, _, _, _⟩ rfl (yields_one (by rfl) 3 _ rfl ⟨W1.heap.size, 1, none⟩ rfl _ _ (fun W' hS => HC1.out W' hS) Try.underlying3 rfl) ?_
  try simp only [Act.put, nz1, nz2, nz3]
  refine tkH (v := ?_) 2 ⟨some 35, _, _, _, _, _⟩ rfl (Or.inl ⟨by rfl, ?_⟩) ?_
  rotate_left
  · intro w hSw; (try dsimp only at hSw); go_simp; try (with_reducible rfl)
  try simp only [Act.put, nz1, nz2, nz3]
  refine tkH (v := ?_) 3 ⟨some 36, _, _, _, _, _⟩ rfl (Or.inl ⟨by rfl, ?_⟩) ?_
  rotate_left
  · intro w hSw; (try dsimp only at hSw); go_simp; try (with_reducible rfl)
  try simp only [Act.put, nz1, nz2, nz3]
  refine tkH (v := ?_) 4 ⟨some 37, _, _, _, _, _⟩ rfl (Or.inl ⟨by rfl, ?_⟩) ?_
  rotate_left
  · intro w hSw; (try dsimp only at hSw); go_simp; try (with_reducible rfl)
  try simp only [Act.put, nz1, nz2, nz3]
  refine tkH (v := (.int .i64 (k : Int))) 5 ⟨some 38, _, _, _, _, _⟩ rfl (yields_one (by rfl) 3 _ rfl ⟨B, 3, none⟩ rfl _ _ (fun W' hS => HC3b.out W' hS) Try.underlying3 rfl) ?_
  try simp only [Act.put, nz1, nz2, nz3]
  refine tkH (v := ?_) 6 ⟨some 39, _, _, _, _, _⟩ rfl (Or.inl ⟨by rfl, ?_⟩) ?_
  rotate_left
  · intro w hSw; (try dsimp only at hSw); go_simp; try (with_reducible rfl)
  try simp only [Act.put, nz1, nz2, nz3]
  refine tkH (v := ?_) 7 ⟨some 32, _, _, _, _, _⟩ rfl (Or.inl ⟨by rfl, ?_⟩) ?_
  rotate_left
  · intro w hSw; (try dsimp only at hSw); go_simp; try (with_reducible rfl)
  try simp only [Act.put, nz1, nz2, nz3]
  refine wpAnyH_done (by kernel_rfl) ?_ _
  have c1u := HC1.out _ hbX
  go_wp2_with (first
    | (guard_target = wpList _ _ _ (Oper.mk _ (.load 127 _) _ _ _ _ :: _) _ _; refine wpList_load_runS (by rfl) 127 _ rfl _ _ rfl (HLOF.out _ hbX) ?_)
    | (go_at_call 81; refine (HBK.out _ hbX).mono ?_; rintro e Wn ⟨rfl, hbn⟩; replace hbX := hbX.trans (hbn.mono hbX.size); clear hbn)
    | (guard_target = wpList _ _ _ (Oper.mk _ (.build 24 _) _ _ _ _ :: _) _ _; refine wpList_build_zero rfl rfl ?_)
    | (guard_target = wpList _ _ _ (Oper.mk _ (.store 24 _ _) _ _ _ _ :: _) _ _; refine wpList_store_idv rfl _ _ rfl W.heap.size (zeroId) rfl rfl zeroId_ok 24 _ (HK6.out.below hbX HK6.out.lt) HO1.out ?_; intro W9 hS9 hz9 hb9 hk9))
  refine bodyPost_ret (results_cell_tmp (p := 2) (q := 3) rfl _ _ W.heap.size 24 (idC (zeroId)) _ rfl hS9 Try.underlying24 rfl (by rw [idC_size zeroId_ok]; exact id_info)) rfl ?_
  exact ⟨by rw [HFIN.out]; rfl, (HBW.out.trans (hbX.mono HBW.out.size)).trans hb9⟩
set_option maxRecDepth 100000 in
set_option maxHeartbeats 8000000 in
theorem choice_free_zero {W : World} {B C M n : Nat} {kv : Value} {s : RdS} (h : RoundAt W B C M n kv s) (k : Nat) (hk : s.round = (k : Int)) (hk12 : k < 12) (hs : s.step = 0) (ht : (s.offers k).there = true) (hkn2 : hasI s.known (s.offers k).id = true) (vd : Int) (hvv : (s.offers k).valid = vd) (hab : ¬ (k : Int) < vd) (hv0 : ¬ 0 < vd) (hl : ¬ vd < s.lockR) : Calls Try.prog 77 #[.pointer (some ⟨B, 0, none⟩)] W fun e w' => e = .returned (.tuple #[idv ((choiceS s).getD zeroId), .bool (choiceS s).isSome]) ∧ Below W.heap.size W w' := by
  have HFIN : Hid (choiceS s = some (s.offers k).id) := Lib.hid (by
    unfold choiceS
    rw [if_neg (fun e => e hs)]
    dsimp only
    rw [hk, Int.toNat_natCast]
    rw [if_neg (fun e => by rcases e with e | e <;> simp_all)]; rw [hvv]; rw [if_neg hab, if_neg (fun e => hv0 e.1)]; rw [if_neg (fun e => hl e.1)])
  have HR := Lib.hid h
  have HOI : Hid (IdOk (s.offers k).id) := Lib.hid (h.ok.offers k hk12).1
  have HVD : Hid (0 ≤ (s.offers k).valid ∧ (s.offers k).valid ≤ (k : Int)) := Lib.hid (h.ok.offers k hk12).2
  clear h
  go_enter Try.func77, Try.ntmps77
  go_upto_region 1 with fail
  generalize hW : World.alloc _ _ = W1
  have hb1 : Below W.heap.size W W1 := by rw [← hW]; exact (Below.refl _ _).alloc (Nat.le_refl _) _
  obtain ⟨old, hk1, ho1⟩ : ∃ old, Blk W1 W.heap.size 24 old ∧ old.size = 32 := by rw [← hW]; exact ⟨_, Blk.newAt _ _ rfl rfl, rfl⟩
  have HO1 := Lib.hid ho1
  have HB1 := Lib.hid hb1
  have HK1 := Lib.hid hk1
  have c4 : W1.cell? ⟨B, 4, none⟩ = some (.int .i64 0) := by rw [(HR.out.below hb1).cell (i := 4) (by omega)]; show some (Value.int .i64 s.step) = _; rw [hs]
  have HC3 : Hid (∀ W', Below W1.heap.size W1 W' → W'.cell? ⟨B, 3, none⟩ = some (.int .i64 (k : Int))) := Lib.hid fun W' hb => by rw [(HR.out.below (hb1.trans (hb.mono hb1.size))).cell (i := 3) (by omega)]; show some (Value.int .i64 s.round) = _; rw [hk]
  have HLO : Hid (∀ W', Below W1.heap.size W1 W' → (Instr.loadAt 127 (.pointer (some ⟨B, 104 + k * 34, none⟩))).run Try.prog W' = .ok (.agg (offC (s.offers k)).toArray) W') := Lib.hid fun W' hb => load_offer (HR.out.below (hb1.trans (hb.mono hb1.size))) hk12
  have hkn : (k : Int) < 12 := by omega
  clear hb1 hk1 ho1 hW
  go_upto_region 3 with fail
  have hbX : Below W1.heap.size W1 W1.drew := (Below.refl _ W1).drew
  refine wp_region_held_drew (S := fun W' => Below W1.heap.size W1 W') (by kernel_rfl) ?_ (fun hHeld => ?_)
  · exact hbX
  refine tkH (v := ?_) 0 ⟨some 11, _, _, _, _, _⟩ rfl (Or.inl ⟨by rfl, ?_⟩) ?_
  rotate_left
  · intro w hSw; (try dsimp only at hSw); go_simp; try (with_reducible rfl)
  try simp only [Act.put, nz1, nz2, nz3]
  refine tkH (v := ?_) 1 ⟨some 12, _, _, _, _, _⟩ rfl (Or.inl ⟨by rfl, ?_⟩) ?_
  rotate_left
  · intro w hSw; (try dsimp only at hSw); go_simp; try (with_reducible rfl)
  try simp only [Act.put, nz1, nz2, nz3]
  refine tkH (v := ?_) 2 ⟨some 13, _, _, _, _, _⟩ rfl (Or.inl ⟨by rfl, ?_⟩) ?_
  rotate_left
  · intro w hSw; (try dsimp only at hSw); go_simp; try (with_reducible rfl)
  try simp only [Act.put, nz1, nz2, nz3]
  refine tkH (v := ?_) 3 ⟨some 14, _, _, _, _, _⟩ rfl (Or.inl ⟨by rfl, ?_⟩) ?_
  rotate_left
  · intro w hSw; (try dsimp only at hSw); go_simp; try (with_reducible rfl)
  try simp only [Act.put, nz1, nz2, nz3]
  refine tkH (v := (.int .i64 (k : Int))) 4 ⟨some 15, _, _, _, _, _⟩ rfl (yields_one (by rfl) 3 _ rfl ⟨B, 3, none⟩ rfl _ _ (fun W' hS => HC3.out W' hS) Try.underlying3 rfl) ?_
  try simp only [Act.put, nz1, nz2, nz3]
  refine tkH (v := ?_) 5 ⟨some 16, _, _, _, _, _⟩ rfl (Or.inl ⟨by rfl, ?_⟩) ?_
  rotate_left
  · intro w hSw; (try dsimp only at hSw); go_simp; try (with_reducible rfl)
  try simp only [Act.put, nz1, nz2, nz3]
  refine tkH (v := ?_) 6 ⟨some 17, _, _, _, _, _⟩ rfl (Or.inl ⟨by rfl, ?_⟩) ?_
  rotate_left
  · intro w hSw; (try dsimp only at hSw); go_simp; try (with_reducible rfl)
  try simp only [Act.put, nz1, nz2, nz3]
  refine tkH (v := ?_) 7 ⟨some 18, _, _, _, _, _⟩ rfl (Or.inl ⟨by rfl, ?_⟩) ?_
  rotate_left
  · intro w hSw; (try dsimp only at hSw); go_simp; try (with_reducible rfl)
  try simp only [Act.put, nz1, nz2, nz3]
  refine tkH (v := (.agg (offC (s.offers k)).toArray)) 8 ⟨some 19, _, _, _, _, _⟩ rfl (yields_run (by rfl) 127 _ rfl (.pointer (some ⟨B, 104 + k * 34, none⟩)) _ rfl (fun W' hS => HLO.out W' hS)) ?_
  try simp only [Act.put, nz1, nz2, nz3]
  refine wpAnyH_ready (rs := [9]) (by kernel_rfl) (by simp) ?_
  refine (AllReadyH.cons (o := ⟨some 4, _, _, _, _, _⟩) rfl (fun K hK => ?_) AllReadyH.nil)
  (try rw [if_pos (by rfl)])
  go_simp
  generalize hW2 : World.alloc _ _ = W2
  have hb2 : Below W1.heap.size W1 W2 := by rw [← hW2]; exact (Below.refl _ W1).alloc (Nat.le_refl _) _
  obtain ⟨old2, hk2', ho2⟩ : ∃ old2, Blk W2 W1.heap.size 127 old2 ∧ old2.size = 34 := by rw [← hW2]; exact ⟨_, Blk.newAt _ _ rfl rfl, rfl⟩
  have hk2 := hk2'.drew
  replace hbX := hb2.drew
  clear hW2 hk2'
  try dsimp only
  refine hK.out _ _ (hbX) (fun hHeld => ?_)
  clear hK K
  try simp only [Act.put, nz1, nz2, nz3]
  refine wpAnyH_ready (rs := [10]) (by kernel_rfl) (by simp) ?_
  refine (AllReadyH.cons (o := ⟨none, _, _, _, _, _⟩) rfl (fun K hK => ?_) AllReadyH.nil)
  (try rw [if_pos (by rfl)])
  refine oper_store_own 127 34 _ _ rfl W1.heap.size (offC (s.offers k)) (offC_length HOI.out) (offC_one _) rfl rfl 127 _ hk2 ho2 offer_info ?_
  intro W3 hk3 hg3 hz3
  replace hbX := hbX.trans (below_of_grown hg3 (Nat.le_refl _) (by have := hk2.lt; omega))
  try dsimp only
  refine hK.out _ _ (hbX) (fun hHeld => ?_)
  clear hK K
  try simp only [Act.put]
  refine wpAnyH_done (by kernel_rfl) ?_ _
  have HBW : Hid (Below W.heap.size W W3) := Lib.hid (HB1.out.trans (hbX.mono HB1.out.size))
  have HK6 : Hid (Blk W3 W.heap.size 24 old) := Lib.hid (HK1.out.below hbX HK1.out.lt)
  have HR3 := Lib.hid (HR.out.below HBW.out)
  have hbZ : Below W3.heap.size W3 W3 := Below.refl _ _
  have HKO := Lib.hid hk3
  have HVDX := Lib.hid (trivial)
  clear hbX hk3 hg3 hz3 hk2 ho2 hb2 c4
  have hbX := hbZ
  clear hbZ
  have HLI : Hid (∀ W', Below W3.heap.size W3 W' → (Instr.loadAt 24 (.pointer (some ⟨W1.heap.size, 2, none⟩))).run Try.prog W' = .ok (idv (s.offers k).id) W') := Lib.hid fun W' hb => load_offid (HKO.out.below hb HKO.out.lt) HOI.out
  have HLOF : Hid (∀ W', Below W3.heap.size W3 W' → (Instr.loadAt 127 (.pointer (some ⟨W1.heap.size, 0, none⟩))).run Try.prog W' = .ok (.agg (offC (s.offers k)).toArray) W') := Lib.hid fun W' hb => load_off (HKO.out.below hb HKO.out.lt) HOI.out
  have HNI : Hid (∀ W', Below W3.heap.size W3 W' → Calls Try.prog 35 #[] W' fun e w' => e = .returned (idv nilId) ∧ Below W'.heap.size W' w') := Lib.hid fun W' _ => nil_any W'
  have HKN : Hid (∀ W', Below W3.heap.size W3 W' → Calls Try.prog 69 #[.pointer (some ⟨B, 0, none⟩), .agg (idC (s.offers k).id)] W' fun e w' => e = .returned (.bool (hasI s.known (s.offers k).id)) ∧ Below W'.heap.size W' w') := Lib.hid fun W' hb => knows_any (HR3.out.below hb) _ HOI.out
  have HT := Lib.hid ht
  clear ht
  have c0 : W3.cell? ⟨W1.heap.size, 0, none⟩ = some (.bool true) := by rw [HKO.out.cell, List.getElem?_toArray]; show some (Value.bool (s.offers k).there) = _; rw [HT.out]
  rw [hkn2] at HKN
  have HVV := Lib.hid hvv
  have HC1 : Hid (∀ W', Below W3.heap.size W3 W' → W'.cell? ⟨W1.heap.size, 1, none⟩ = some (.int .i64 vd)) := Lib.hid fun W' hb => by rw [(HKO.out.below hb HKO.out.lt).cell, List.getElem?_toArray]; show some (Value.int .i64 (s.offers k).valid) = _; rw [HVV.out]
  have c1 := HC1.out W3 (Below.refl _ _)
  clear hkn2 hvv
  have HC3b : Hid (∀ W', Below W3.heap.size W3 W' → W'.cell? ⟨B, 3, none⟩ = some (.int .i64 (k : Int))) := Lib.hid fun W' hb => by rw [(HR3.out.below hb).cell (i := 3) (by omega)]; show some (Value.int .i64 s.round) = _; rw [hk]
  have HV0 := Lib.hid hv0
  have HK12 := Lib.hid hk12
  go_upto_region 8 with (first
    | (guard_target = wpList _ _ _ (Oper.mk _ (.load 24 (.tmp 27)) _ _ _ _ :: _) _ _; refine wpList_load_runS (by rfl) 24 _ rfl _ _ rfl (HLI.out _ hbX) ?_)
    | (go_at_call 69; refine (HKN.out _ hbX).mono ?_; rintro e Wn ⟨rfl, hbn⟩; replace hbX := hbX.trans (hbn.mono hbX.size); clear hbn))
  replace hbX := hbX.drew
  refine wp_region_held_drew (S := fun W' => Below W3.heap.size W3 W') (by kernel_rfl) ?_ (fun hHeld => ?_)
  · exact hbX
  refine tkH (v := ?_) 0 ⟨some 33, _, _, _, _, _⟩ rfl (Or.inl ⟨by rfl, ?_⟩) ?_
  rotate_left
  · intro w hSw; (try dsimp only at hSw); go_simp; try (with_reducible rfl)
  try simp only [Act.put, nz1, nz2, nz3]
  refine tkH (v := (.int .i64 vd)) 1 ⟨some 34, _, _, _, _, _⟩ rfl (yields_one (by rfl) 3 _ rfl ⟨W1.heap.size, 1, none⟩ rfl _ _ (fun W' hS => HC1.out W' hS) Try.underlying3 rfl) ?_
  try simp only [Act.put, nz1, nz2, nz3]
  refine tkH (v := ?_) 2 ⟨some 35, _, _, _, _, _⟩ rfl (Or.inl ⟨by rfl, ?_⟩) ?_
  rotate_left
  · intro w hSw; (try dsimp only at hSw); go_simp; try (with_reducible rfl)
  try simp only [Act.put, nz1, nz2, nz3]
  refine tkH (v := ?_) 3 ⟨some 36, _, _, _, _, _⟩ rfl (Or.inl ⟨by rfl, ?_⟩) ?_
  rotate_left
  · intro w hSw; (try dsimp only at hSw); go_simp; try (with_reducible rfl)
  try simp only [Act.put, nz1, nz2, nz3]
  refine tkH (v := ?_) 4 ⟨some 37, _, _, _, _, _⟩ rfl (Or.inl ⟨by rfl, ?_⟩) ?_
  rotate_left
  · intro w hSw; (try dsimp only at hSw); go_simp; try (with_reducible rfl)
  try simp only [Act.put, nz1, nz2, nz3]
  refine tkH (v := (.int .i64 (k : Int))) 5 ⟨some 38, _, _, _, _, _⟩ rfl (yields_one (by rfl) 3 _ rfl ⟨B, 3, none⟩ rfl _ _ (fun W' hS => HC3b.out W' hS) Try.underlying3 rfl) ?_
  try simp only [Act.put, nz1, nz2, nz3]
  refine tkH (v := ?_) 6 ⟨some 39, _, _, _, _, _⟩ rfl (Or.inl ⟨by rfl, ?_⟩) ?_
  rotate_left
  · intro w hSw; (try dsimp only at hSw); go_simp; try (with_reducible rfl)
  try simp only [Act.put, nz1, nz2, nz3]
  refine tkH (v := ?_) 7 ⟨some 32, _, _, _, _, _⟩ rfl (Or.inl ⟨by rfl, ?_⟩) ?_
  rotate_left
  · intro w hSw; (try dsimp only at hSw); go_simp; try (with_reducible rfl)
  try simp only [Act.put, nz1, nz2, nz3]
  refine wpAnyH_done (by kernel_rfl) ?_ _
  have c1u := HC1.out _ hbX
  go_upto_region 12 with (first
    | (guard_target = wpList _ _ _ (Oper.mk _ (.load 127 _) _ _ _ _ :: _) _ _; refine wpList_load_runS (by rfl) 127 _ rfl _ _ rfl (HLOF.out _ hbX) ?_)
    | (go_at_call 81; refine (HBK.out _ hbX).mono ?_; rintro e Wn ⟨rfl, hbn⟩; replace hbX := hbX.trans (hbn.mono hbX.size); clear hbn))
  replace hbX := hbX.drew
  refine wp_region_held_drew (S := fun W' => Below W3.heap.size W3 W') (by kernel_rfl) ?_ (fun hHeld => ?_)
  · exact hbX
  refine tkH (v := ?_) 0 ⟨some 53, _, _, _, _, _⟩ rfl (Or.inl ⟨by rfl, ?_⟩) ?_
  rotate_left
  · intro w hSw; (try dsimp only at hSw); go_simp; try (with_reducible rfl)
  try simp only [Act.put, nz1, nz2, nz3]
  refine tkH (v := ?_) 1 ⟨some 54, _, _, _, _, _⟩ rfl (Or.inl ⟨by rfl, ?_⟩) ?_
  rotate_left
  · intro w hSw; (try dsimp only at hSw); go_simp; try (with_reducible rfl)
  try simp only [Act.put, nz1, nz2, nz3]
  refine tkH (v := ?_) 2 ⟨some 55, _, _, _, _, _⟩ rfl (Or.inl ⟨by rfl, ?_⟩) ?_
  rotate_left
  · intro w hSw; (try dsimp only at hSw); go_simp; try (with_reducible rfl)
  try simp only [Act.put, nz1, nz2, nz3]
  refine tkH (v := ?_) 3 ⟨some 56, _, _, _, _, _⟩ rfl (Or.inl ⟨by rfl, ?_⟩) ?_
  rotate_left
  · intro w hSw; (try dsimp only at hSw); go_simp; try (with_reducible rfl)
  try simp only [Act.put, nz1, nz2, nz3]
  refine tkH (v := (.int .i64 s.lockR)) 4 ⟨some 57, _, _, _, _, _⟩ rfl (yields_one (by rfl) 3 _ rfl ⟨B, 37, none⟩ rfl _ _ (fun W' hS => (HR3.out.below hS).cell (i := 37) (by omega)) Try.underlying3 rfl) ?_
  try simp only [Act.put, nz1, nz2, nz3]
  refine tkH (v := ?_) 5 ⟨some 58, _, _, _, _, _⟩ rfl (Or.inl ⟨by rfl, ?_⟩) ?_
  rotate_left
  · intro w hSw; (try dsimp only at hSw); go_simp; try (with_reducible rfl)
  try simp only [Act.put, nz1, nz2, nz3]
  refine tkH (v := (.int .i64 vd)) 6 ⟨some 59, _, _, _, _, _⟩ rfl (yields_one (by rfl) 3 _ rfl ⟨W1.heap.size, 1, none⟩ rfl _ _ (fun W' hS => HC1.out W' hS) Try.underlying3 rfl) ?_
  try simp only [Act.put, nz1, nz2, nz3]
  refine tkH (v := (.bool false)) 7 ⟨some 60, _, _, _, _, _⟩ rfl (yields_binR (by rfl) .gtr 3 _ _ _ rfl (.int .i64 s.lockR) (.int .i64 vd) rfl rfl _ (fun w => by rfl) (fun w => int_gtr _ _ _ (by simpa using hl) w)) ?_
  try simp only [Act.put, nz1, nz2, nz3]
  refine tkH (v := ?_) 8 ⟨some 61, _, _, _, _, _⟩ rfl (Or.inl ⟨by rfl, ?_⟩) ?_
  rotate_left
  · intro w hSw; (try dsimp only at hSw); go_simp; try (with_reducible rfl)
  try simp only [Act.put, nz1, nz2, nz3]
  refine tkH (v := undef) 9 ⟨some 62, _, _, _, _, _⟩ rfl (Or.inr ⟨by rfl, rfl⟩) ?_
  try simp only [Act.put, nz1, nz2, nz3]
  refine tkH (v := undef) 10 ⟨some 63, _, _, _, _, _⟩ rfl (Or.inr ⟨by rfl, rfl⟩) ?_
  try simp only [Act.put, nz1, nz2, nz3]
  refine tkH (v := undef) 11 ⟨some 64, _, _, _, _, _⟩ rfl (Or.inr ⟨by rfl, rfl⟩) ?_
  try simp only [Act.put, nz1, nz2, nz3]
  refine tkH (v := undef) 12 ⟨some 65, _, _, _, _, _⟩ rfl (Or.inr ⟨by rfl, rfl⟩) ?_
  try simp only [Act.put, nz1, nz2, nz3]
  refine tkH (v := undef) 13 ⟨some 66, _, _, _, _, _⟩ rfl (Or.inr ⟨by rfl, rfl⟩) ?_
  try simp only [Act.put, nz1, nz2, nz3]
  refine tkH (v := undef) 14 ⟨some 67, _, _, _, _, _⟩ rfl (Or.inr ⟨by rfl, rfl⟩) ?_
  try simp only [Act.put, nz1, nz2, nz3]
  refine tkH (v := undef) 15 ⟨some 68, _, _, _, _, _⟩ rfl (Or.inr ⟨by rfl, rfl⟩) ?_
  try simp only [Act.put, nz1, nz2, nz3]
  refine tkH (v := undef) 16 ⟨some 69, _, _, _, _, _⟩ rfl (Or.inr ⟨by rfl, rfl⟩) ?_
  try simp only [Act.put, nz1, nz2, nz3]
  refine tkH (v := ?_) 17 ⟨some 70, _, _, _, _, _⟩ rfl (Or.inl ⟨by rfl, ?_⟩) ?_
  rotate_left
  · intro w hSw; (try dsimp only at hSw); go_simp; try (with_reducible rfl)
  try simp only [Act.put, nz1, nz2, nz3]
  refine tkH (v := ?_) 18 ⟨some 52, _, _, _, _, _⟩ rfl (Or.inl ⟨by rfl, ?_⟩) ?_
  rotate_left
  · intro w hSw; (try dsimp only at hSw); go_simp; try (with_reducible rfl)
  try simp only [Act.put, nz1, nz2, nz3]
  refine wpAnyH_done (by kernel_rfl) ?_ _
  go_wp2_with (first
    | (guard_target = wpList _ _ _ (Oper.mk _ (.load 24 (.tmp 20)) _ _ _ _ :: _) _ _; refine wpList_load_runS (by rfl) 24 _ rfl _ _ rfl (HLI.out _ hbX) ?_)
    | (guard_target = wpList _ _ _ (Oper.mk _ (.store 24 _ _) _ _ _ _ :: _) _ _; refine wpList_store_idv rfl _ _ rfl W.heap.size ((s.offers k).id) rfl rfl HOI.out 24 _ (HK6.out.below hbX HK6.out.lt) HO1.out ?_; intro W9 hS9 hz9 hb9 hk9))
  refine bodyPost_ret (results_cell_tmp (p := 2) (q := 3) rfl _ _ W.heap.size 24 (idC ((s.offers k).id)) _ rfl hS9 Try.underlying24 rfl (by rw [idC_size HOI.out]; exact id_info)) rfl ?_
  exact ⟨by rw [HFIN.out]; rfl, (HBW.out.trans (hbX.mono HBW.out.size)).trans hb9⟩
set_option maxRecDepth 100000 in
set_option maxHeartbeats 8000000 in
theorem choice_free_old {W : World} {B C M n : Nat} {kv : Value} {s : RdS} (h : RoundAt W B C M n kv s) (k : Nat) (hk : s.round = (k : Int)) (hk12 : k < 12) (hs : s.step = 0) (ht : (s.offers k).there = true) (hkn2 : hasI s.known (s.offers k).id = true) (vd : Int) (hvv : (s.offers k).valid = vd) (hab : ¬ (k : Int) < vd) (hv0 : 0 < vd) (hbk : backedS s (s.offers k) = true) (hl : ¬ vd < s.lockR) : Calls Try.prog 77 #[.pointer (some ⟨B, 0, none⟩)] W fun e w' => e = .returned (.tuple #[idv ((choiceS s).getD zeroId), .bool (choiceS s).isSome]) ∧ Below W.heap.size W w' := by
  have HFIN : Hid (choiceS s = some (s.offers k).id) := Lib.hid (by
    unfold choiceS
    rw [if_neg (fun e => e hs)]
    dsimp only
    rw [hk, Int.toNat_natCast]
    rw [if_neg (fun e => by rcases e with e | e <;> simp_all)]; rw [hvv]; rw [if_neg hab, if_neg (fun e => by have := e.2; rw [hbk] at this; cases this)]; rw [if_neg (fun e => hl e.1)])
  have HR := Lib.hid h
  have HOI : Hid (IdOk (s.offers k).id) := Lib.hid (h.ok.offers k hk12).1
  have HVD : Hid (0 ≤ (s.offers k).valid ∧ (s.offers k).valid ≤ (k : Int)) := Lib.hid (h.ok.offers k hk12).2
  clear h
  go_enter Try.func77, Try.ntmps77
  go_upto_region 1 with fail
  generalize hW : World.alloc _ _ = W1
  have hb1 : Below W.heap.size W W1 := by rw [← hW]; exact (Below.refl _ _).alloc (Nat.le_refl _) _
  obtain ⟨old, hk1, ho1⟩ : ∃ old, Blk W1 W.heap.size 24 old ∧ old.size = 32 := by rw [← hW]; exact ⟨_, Blk.newAt _ _ rfl rfl, rfl⟩
  have HO1 := Lib.hid ho1
  have HB1 := Lib.hid hb1
  have HK1 := Lib.hid hk1
  have c4 : W1.cell? ⟨B, 4, none⟩ = some (.int .i64 0) := by rw [(HR.out.below hb1).cell (i := 4) (by omega)]; show some (Value.int .i64 s.step) = _; rw [hs]
  have HC3 : Hid (∀ W', Below W1.heap.size W1 W' → W'.cell? ⟨B, 3, none⟩ = some (.int .i64 (k : Int))) := Lib.hid fun W' hb => by rw [(HR.out.below (hb1.trans (hb.mono hb1.size))).cell (i := 3) (by omega)]; show some (Value.int .i64 s.round) = _; rw [hk]
  have HLO : Hid (∀ W', Below W1.heap.size W1 W' → (Instr.loadAt 127 (.pointer (some ⟨B, 104 + k * 34, none⟩))).run Try.prog W' = .ok (.agg (offC (s.offers k)).toArray) W') := Lib.hid fun W' hb => load_offer (HR.out.below (hb1.trans (hb.mono hb1.size))) hk12
  have hkn : (k : Int) < 12 := by omega
  clear hb1 hk1 ho1 hW
  go_upto_region 3 with fail
  have hbX : Below W1.heap.size W1 W1.drew := (Below.refl _ W1).drew
  refine wp_region_held_drew (S := fun W' => Below W1.heap.size W1 W') (by kernel_rfl) ?_ (fun hHeld => ?_)
  · exact hbX
  refine tkH (v := ?_) 0 ⟨some 11, _, _, _, _, _⟩ rfl (Or.inl ⟨by rfl, ?_⟩) ?_
  rotate_left
  · intro w hSw; (try dsimp only at hSw); go_simp; try (with_reducible rfl)
  try simp only [Act.put, nz1, nz2, nz3]
  refine tkH (v := ?_) 1 ⟨some 12, _, _, _, _, _⟩ rfl (Or.inl ⟨by rfl, ?_⟩) ?_
  rotate_left
  · intro w hSw; (try dsimp only at hSw); go_simp; try (with_reducible rfl)
  try simp only [Act.put, nz1, nz2, nz3]
  refine tkH (v := ?_) 2 ⟨some 13, _, _, _, _, _⟩ rfl (Or.inl ⟨by rfl, ?_⟩) ?_
  rotate_left
  · intro w hSw; (try dsimp only at hSw); go_simp; try (with_reducible rfl)
  try simp only [Act.put, nz1, nz2, nz3]
  refine tkH (v := ?_) 3 ⟨some 14, _, _, _, _, _⟩ rfl (Or.inl ⟨by rfl, ?_⟩) ?_
  rotate_left
  · intro w hSw; (try dsimp only at hSw); go_simp; try (with_reducible rfl)
  try simp only [Act.put, nz1, nz2, nz3]
  refine tkH (v := (.int .i64 (k : Int))) 4 ⟨some 15, _, _, _, _, _⟩ rfl (yields_one (by rfl) 3 _ rfl ⟨B, 3, none⟩ rfl _ _ (fun W' hS => HC3.out W' hS) Try.underlying3 rfl) ?_
  try simp only [Act.put, nz1, nz2, nz3]
  refine tkH (v := ?_) 5 ⟨some 16, _, _, _, _, _⟩ rfl (Or.inl ⟨by rfl, ?_⟩) ?_
  rotate_left
  · intro w hSw; (try dsimp only at hSw); go_simp; try (with_reducible rfl)
  try simp only [Act.put, nz1, nz2, nz3]
  refine tkH (v := ?_) 6 ⟨some 17, _, _, _, _, _⟩ rfl (Or.inl ⟨by rfl, ?_⟩) ?_
  rotate_left
  · intro w hSw; (try dsimp only at hSw); go_simp; try (with_reducible rfl)
  try simp only [Act.put, nz1, nz2, nz3]
  refine tkH (v := ?_) 7 ⟨some 18, _, _, _, _, _⟩ rfl (Or.inl ⟨by rfl, ?_⟩) ?_
  rotate_left
  · intro w hSw; (try dsimp only at hSw); go_simp; try (with_reducible rfl)
  try simp only [Act.put, nz1, nz2, nz3]
  refine tkH (v := (.agg (offC (s.offers k)).toArray)) 8 ⟨some 19, _, _, _, _, _⟩ rfl (yields_run (by rfl) 127 _ rfl (.pointer (some ⟨B, 104 + k * 34, none⟩)) _ rfl (fun W' hS => HLO.out W' hS)) ?_
  try simp only [Act.put, nz1, nz2, nz3]
  refine wpAnyH_ready (rs := [9]) (by kernel_rfl) (by simp) ?_
  refine (AllReadyH.cons (o := ⟨some 4, _, _, _, _, _⟩) rfl (fun K hK => ?_) AllReadyH.nil)
  (try rw [if_pos (by rfl)])
  go_simp
  generalize hW2 : World.alloc _ _ = W2
  have hb2 : Below W1.heap.size W1 W2 := by rw [← hW2]; exact (Below.refl _ W1).alloc (Nat.le_refl _) _
  obtain ⟨old2, hk2', ho2⟩ : ∃ old2, Blk W2 W1.heap.size 127 old2 ∧ old2.size = 34 := by rw [← hW2]; exact ⟨_, Blk.newAt _ _ rfl rfl, rfl⟩
  have hk2 := hk2'.drew
  replace hbX := hb2.drew
  clear hW2 hk2'
  try dsimp only
  refine hK.out _ _ (hbX) (fun hHeld => ?_)
  clear hK K
  try simp only [Act.put, nz1, nz2, nz3]
  refine wpAnyH_ready (rs := [10]) (by kernel_rfl) (by simp) ?_
  refine (AllReadyH.cons (o := ⟨none, _, _, _, _, _⟩) rfl (fun K hK => ?_) AllReadyH.nil)
  (try rw [if_pos (by rfl)])
  refine oper_store_own 127 34 _ _ rfl W1.heap.size (offC (s.offers k)) (offC_length HOI.out) (offC_one _) rfl rfl 127 _ hk2 ho2 offer_info ?_
  intro W3 hk3 hg3 hz3
  replace hbX := hbX.trans (below_of_grown hg3 (Nat.le_refl _) (by have := hk2.lt; omega))
  try dsimp only
  refine hK.out _ _ (hbX) (fun hHeld => ?_)
  clear hK K
  try simp only [Act.put]
  refine wpAnyH_done (by kernel_rfl) ?_ _
  have HBW : Hid (Below W.heap.size W W3) := Lib.hid (HB1.out.trans (hbX.mono HB1.out.size))
  have HK6 : Hid (Blk W3 W.heap.size 24 old) := Lib.hid (HK1.out.below hbX HK1.out.lt)
  have HR3 := Lib.hid (HR.out.below HBW.out)
  have hbZ : Below W3.heap.size W3 W3 := Below.refl _ _
  have HKO := Lib.hid hk3
  have HVDX := Lib.hid (trivial)
  clear hbX hk3 hg3 hz3 hk2 ho2 hb2 c4
  have hbX := hbZ
  clear hbZ
  have HLI : Hid (∀ W', Below W3.heap.size W3 W' → (Instr.loadAt 24 (.pointer (some ⟨W1.heap.size, 2, none⟩))).run Try.prog W' = .ok (idv (s.offers k).id) W') := Lib.hid fun W' hb => load_offid (HKO.out.below hb HKO.out.lt) HOI.out
  have HLOF : Hid (∀ W', Below W3.heap.size W3 W' → (Instr.loadAt 127 (.pointer (some ⟨W1.heap.size, 0, none⟩))).run Try.prog W' = .ok (.agg (offC (s.offers k)).toArray) W') := Lib.hid fun W' hb => load_off (HKO.out.below hb HKO.out.lt) HOI.out
  have HNI : Hid (∀ W', Below W3.heap.size W3 W' → Calls Try.prog 35 #[] W' fun e w' => e = .returned (idv nilId) ∧ Below W'.heap.size W' w') := Lib.hid fun W' _ => nil_any W'
  have HKN : Hid (∀ W', Below W3.heap.size W3 W' → Calls Try.prog 69 #[.pointer (some ⟨B, 0, none⟩), .agg (idC (s.offers k).id)] W' fun e w' => e = .returned (.bool (hasI s.known (s.offers k).id)) ∧ Below W'.heap.size W' w') := Lib.hid fun W' hb => knows_any (HR3.out.below hb) _ HOI.out
  have HT := Lib.hid ht
  clear ht
  have c0 : W3.cell? ⟨W1.heap.size, 0, none⟩ = some (.bool true) := by rw [HKO.out.cell, List.getElem?_toArray]; show some (Value.bool (s.offers k).there) = _; rw [HT.out]
  rw [hkn2] at HKN
  have HVV := Lib.hid hvv
  have HC1 : Hid (∀ W', Below W3.heap.size W3 W' → W'.cell? ⟨W1.heap.size, 1, none⟩ = some (.int .i64 vd)) := Lib.hid fun W' hb => by rw [(HKO.out.below hb HKO.out.lt).cell, List.getElem?_toArray]; show some (Value.int .i64 (s.offers k).valid) = _; rw [HVV.out]
  have c1 := HC1.out W3 (Below.refl _ _)
  clear hkn2 hvv
  have HC3b : Hid (∀ W', Below W3.heap.size W3 W' → W'.cell? ⟨B, 3, none⟩ = some (.int .i64 (k : Int))) := Lib.hid fun W' hb => by rw [(HR3.out.below hb).cell (i := 3) (by omega)]; show some (Value.int .i64 s.round) = _; rw [hk]
  have HV0 := Lib.hid hv0
  have HK12 := Lib.hid hk12
  have HBK : Hid (∀ W', Below W3.heap.size W3 W' → Calls Try.prog 81 #[.pointer (some ⟨B, 0, none⟩), .agg (offC (s.offers k)).toArray] W' fun e w' => e = .returned (.bool (backedS s (s.offers k))) ∧ Below W'.heap.size W' w') := Lib.hid fun W' hb => backed_any (HR3.out.below hb) _ HOI.out ⟨by rw [HVV.out]; exact HV0.out, by have := HVD.out; have := HK12.out; omega⟩
  rw [hbk] at HBK
  clear hbk
  go_upto_region 8 with (first
    | (guard_target = wpList _ _ _ (Oper.mk _ (.load 24 (.tmp 27)) _ _ _ _ :: _) _ _; refine wpList_load_runS (by rfl) 24 _ rfl _ _ rfl (HLI.out _ hbX) ?_)
    | (go_at_call 69; refine (HKN.out _ hbX).mono ?_; rintro e Wn ⟨rfl, hbn⟩; replace hbX := hbX.trans (hbn.mono hbX.size); clear hbn))
  replace hbX := hbX.drew
  refine wp_region_held_drew (S := fun W' => Below W3.heap.size W3 W') (by kernel_rfl) ?_ (fun hHeld => ?_)
  · exact hbX
  refine tkH (v := ?_) 0 ⟨some 33, _, _, _, _, _⟩ rfl (Or.inl ⟨by rfl, ?_⟩) ?_
  rotate_left
  · intro w hSw; (try dsimp only at hSw); go_simp; try (with_reducible rfl)
  try simp only [Act.put, nz1, nz2, nz3]
  refine tkH (v := (.int .i64 vd)) 1 ⟨some 34, _, _, _, _, _⟩ rfl (yields_one (by rfl) 3 _ rfl ⟨W1.heap.size, 1, none⟩ rfl _ _ (fun W' hS => HC1.out W' hS) Try.underlying3 rfl) ?_
  try simp only [Act.put, nz1, nz2, nz3]
  refine tkH (v := ?_) 2 ⟨some 35, _, _, _, _, _⟩ rfl (Or.inl ⟨by rfl, ?_⟩) ?_
  rotate_left
  · intro w hSw; (try dsimp only at hSw); go_simp; try (with_reducible rfl)
  try simp only [Act.put, nz1, nz2, nz3]
  refine tkH (v := ?_) 3 ⟨some 36, _, _, _, _, _⟩ rfl (Or.inl ⟨by rfl, ?_⟩) ?_
  rotate_left
  · intro w hSw; (try dsimp only at hSw); go_simp; try (with_reducible rfl)
  try simp only [Act.put, nz1, nz2, nz3]
  refine tkH (v := ?_) 4 ⟨some 37, _, _, _, _, _⟩ rfl (Or.inl ⟨by rfl, ?_⟩) ?_
  rotate_left
  · intro w hSw; (try dsimp only at hSw); go_simp; try (with_reducible rfl)
  try simp only [Act.put, nz1, nz2, nz3]
  refine tkH (v := (.int .i64 (k : Int))) 5 ⟨some 38, _, _, _, _, _⟩ rfl (yields_one (by rfl) 3 _ rfl ⟨B, 3, none⟩ rfl _ _ (fun W' hS => HC3b.out W' hS) Try.underlying3 rfl) ?_
  try simp only [Act.put, nz1, nz2, nz3]
  refine tkH (v := ?_) 6 ⟨some 39, _, _, _, _, _⟩ rfl (Or.inl ⟨by rfl, ?_⟩) ?_
  rotate_left
  · intro w hSw; (try dsimp only at hSw); go_simp; try (with_reducible rfl)
  try simp only [Act.put, nz1, nz2, nz3]
  refine tkH (v := ?_) 7 ⟨some 32, _, _, _, _, _⟩ rfl (Or.inl ⟨by rfl, ?_⟩) ?_
  rotate_left
  · intro w hSw; (try dsimp only at hSw); go_simp; try (with_reducible rfl)
  try simp only [Act.put, nz1, nz2, nz3]
  refine wpAnyH_done (by kernel_rfl) ?_ _
  have c1u := HC1.out _ hbX
  go_upto_region 12 with (first
    | (guard_target = wpList _ _ _ (Oper.mk _ (.load 127 _) _ _ _ _ :: _) _ _; refine wpList_load_runS (by rfl) 127 _ rfl _ _ rfl (HLOF.out _ hbX) ?_)
    | (go_at_call 81; refine (HBK.out _ hbX).mono ?_; rintro e Wn ⟨rfl, hbn⟩; replace hbX := hbX.trans (hbn.mono hbX.size); clear hbn))
  replace hbX := hbX.drew
  refine wp_region_held_drew (S := fun W' => Below W3.heap.size W3 W') (by kernel_rfl) ?_ (fun hHeld => ?_)
  · exact hbX
  refine tkH (v := ?_) 0 ⟨some 53, _, _, _, _, _⟩ rfl (Or.inl ⟨by rfl, ?_⟩) ?_
  rotate_left
  · intro w hSw; (try dsimp only at hSw); go_simp; try (with_reducible rfl)
  try simp only [Act.put, nz1, nz2, nz3]
  refine tkH (v := ?_) 1 ⟨some 54, _, _, _, _, _⟩ rfl (Or.inl ⟨by rfl, ?_⟩) ?_
  rotate_left
  · intro w hSw; (try dsimp only at hSw); go_simp; try (with_reducible rfl)
  try simp only [Act.put, nz1, nz2, nz3]
  refine tkH (v := ?_) 2 ⟨some 55, _, _, _, _, _⟩ rfl (Or.inl ⟨by rfl, ?_⟩) ?_
  rotate_left
  · intro w hSw; (try dsimp only at hSw); go_simp; try (with_reducible rfl)
  try simp only [Act.put, nz1, nz2, nz3]
  refine tkH (v := ?_) 3 ⟨some 56, _, _, _, _, _⟩ rfl (Or.inl ⟨by rfl, ?_⟩) ?_
  rotate_left
  · intro w hSw; (try dsimp only at hSw); go_simp; try (with_reducible rfl)
  try simp only [Act.put, nz1, nz2, nz3]
  refine tkH (v := (.int .i64 s.lockR)) 4 ⟨some 57, _, _, _, _, _⟩ rfl (yields_one (by rfl) 3 _ rfl ⟨B, 37, none⟩ rfl _ _ (fun W' hS => (HR3.out.below hS).cell (i := 37) (by omega)) Try.underlying3 rfl) ?_
  try simp only [Act.put, nz1, nz2, nz3]
  refine tkH (v := ?_) 5 ⟨some 58, _, _, _, _, _⟩ rfl (Or.inl ⟨by rfl, ?_⟩) ?_
  rotate_left
  · intro w hSw; (try dsimp only at hSw); go_simp; try (with_reducible rfl)
  try simp only [Act.put, nz1, nz2, nz3]
  refine tkH (v := (.int .i64 vd)) 6 ⟨some 59, _, _, _, _, _⟩ rfl (yields_one (by rfl) 3 _ rfl ⟨W1.heap.size, 1, none⟩ rfl _ _ (fun W' hS => HC1.out W' hS) Try.underlying3 rfl) ?_
  try simp only [Act.put, nz1, nz2, nz3]
  refine tkH (v := (.bool false)) 7 ⟨some 60, _, _, _, _, _⟩ rfl (yields_binR (by rfl) .gtr 3 _ _ _ rfl (.int .i64 s.lockR) (.int .i64 vd) rfl rfl _ (fun w => by rfl) (fun w => int_gtr _ _ _ (by simpa using hl) w)) ?_
  try simp only [Act.put, nz1, nz2, nz3]
  refine tkH (v := ?_) 8 ⟨some 61, _, _, _, _, _⟩ rfl (Or.inl ⟨by rfl, ?_⟩) ?_
  rotate_left
  · intro w hSw; (try dsimp only at hSw); go_simp; try (with_reducible rfl)
  try simp only [Act.put, nz1, nz2, nz3]
  refine tkH (v := undef) 9 ⟨some 62, _, _, _, _, _⟩ rfl (Or.inr ⟨by rfl, rfl⟩) ?_
  try simp only [Act.put, nz1, nz2, nz3]
  refine tkH (v := undef) 10 ⟨some 63, _, _, _, _, _⟩ rfl (Or.inr ⟨by rfl, rfl⟩) ?_
  try simp only [Act.put, nz1, nz2, nz3]
  refine tkH (v := undef) 11 ⟨some 64, _, _, _, _, _⟩ rfl (Or.inr ⟨by rfl, rfl⟩) ?_
  try simp only [Act.put, nz1, nz2, nz3]
  refine tkH (v := undef) 12 ⟨some 65, _, _, _, _, _⟩ rfl (Or.inr ⟨by rfl, rfl⟩) ?_
  try simp only [Act.put, nz1, nz2, nz3]
  refine tkH (v := undef) 13 ⟨some 66, _, _, _, _, _⟩ rfl (Or.inr ⟨by rfl, rfl⟩) ?_
  try simp only [Act.put, nz1, nz2, nz3]
  refine tkH (v := undef) 14 ⟨some 67, _, _, _, _, _⟩ rfl (Or.inr ⟨by rfl, rfl⟩) ?_
  try simp only [Act.put, nz1, nz2, nz3]
  refine tkH (v := undef) 15 ⟨some 68, _, _, _, _, _⟩ rfl (Or.inr ⟨by rfl, rfl⟩) ?_
  try simp only [Act.put, nz1, nz2, nz3]
  refine tkH (v := undef) 16 ⟨some 69, _, _, _, _, _⟩ rfl (Or.inr ⟨by rfl, rfl⟩) ?_
  try simp only [Act.put, nz1, nz2, nz3]
  refine tkH (v := ?_) 17 ⟨some 70, _, _, _, _, _⟩ rfl (Or.inl ⟨by rfl, ?_⟩) ?_
  rotate_left
  · intro w hSw; (try dsimp only at hSw); go_simp; try (with_reducible rfl)
  try simp only [Act.put, nz1, nz2, nz3]
  refine tkH (v := ?_) 18 ⟨some 52, _, _, _, _, _⟩ rfl (Or.inl ⟨by rfl, ?_⟩) ?_
  rotate_left
  · intro w hSw; (try dsimp only at hSw); go_simp; try (with_reducible rfl)
  try simp only [Act.put, nz1, nz2, nz3]
  refine wpAnyH_done (by kernel_rfl) ?_ _
  go_wp2_with (first
    | (guard_target = wpList _ _ _ (Oper.mk _ (.load 24 (.tmp 20)) _ _ _ _ :: _) _ _; refine wpList_load_runS (by rfl) 24 _ rfl _ _ rfl (HLI.out _ hbX) ?_)
    | (guard_target = wpList _ _ _ (Oper.mk _ (.store 24 _ _) _ _ _ _ :: _) _ _; refine wpList_store_idv rfl _ _ rfl W.heap.size ((s.offers k).id) rfl rfl HOI.out 24 _ (HK6.out.below hbX HK6.out.lt) HO1.out ?_; intro W9 hS9 hz9 hb9 hk9))
  refine bodyPost_ret (results_cell_tmp (p := 2) (q := 3) rfl _ _ W.heap.size 24 (idC ((s.offers k).id)) _ rfl hS9 Try.underlying24 rfl (by rw [idC_size HOI.out]; exact id_info)) rfl ?_
  exact ⟨by rw [HFIN.out]; rfl, (HBW.out.trans (hbX.mono HBW.out.size)).trans hb9⟩
set_option maxRecDepth 100000 in
set_option maxHeartbeats 8000000 in
theorem choice_held_zero {W : World} {B C M n : Nat} {kv : Value} {s : RdS} (h : RoundAt W B C M n kv s) (k : Nat) (hk : s.round = (k : Int)) (hk12 : k < 12) (hs : s.step = 0) (ht : (s.offers k).there = true) (hkn2 : hasI s.known (s.offers k).id = true) (vd : Int) (hvv : (s.offers k).valid = vd) (hab : ¬ (k : Int) < vd) (hv0 : ¬ 0 < vd) (hl : vd < s.lockR) (hl2 : (s.lock == (s.offers k).id) = false) : Calls Try.prog 77 #[.pointer (some ⟨B, 0, none⟩)] W fun e w' => e = .returned (.tuple #[idv ((choiceS s).getD zeroId), .bool (choiceS s).isSome]) ∧ Below W.heap.size W w' := by
  have HFIN : Hid (choiceS s = some nilId) := Lib.hid (by
    unfold choiceS
    rw [if_neg (fun e => e hs)]
    dsimp only
    rw [hk, Int.toNat_natCast]
    rw [if_neg (fun e => by rcases e with e | e <;> simp_all)]; rw [hvv]; rw [if_neg hab, if_neg (fun e => hv0 e.1)]; rw [if_pos ⟨hl, fun e => by rw [e] at hl2; simp at hl2⟩])
  have HR := Lib.hid h
  have HOI : Hid (IdOk (s.offers k).id) := Lib.hid (h.ok.offers k hk12).1
  have HVD : Hid (0 ≤ (s.offers k).valid ∧ (s.offers k).valid ≤ (k : Int)) := Lib.hid (h.ok.offers k hk12).2
  clear h
  go_enter Try.func77, Try.ntmps77
  go_upto_region 1 with fail
  generalize hW : World.alloc _ _ = W1
  have hb1 : Below W.heap.size W W1 := by rw [← hW]; exact (Below.refl _ _).alloc (Nat.le_refl _) _
  obtain ⟨old, hk1, ho1⟩ : ∃ old, Blk W1 W.heap.size 24 old ∧ old.size = 32 := by rw [← hW]; exact ⟨_, Blk.newAt _ _ rfl rfl, rfl⟩
  have HO1 := Lib.hid ho1
  have HB1 := Lib.hid hb1
  have HK1 := Lib.hid hk1
  have c4 : W1.cell? ⟨B, 4, none⟩ = some (.int .i64 0) := by rw [(HR.out.below hb1).cell (i := 4) (by omega)]; show some (Value.int .i64 s.step) = _; rw [hs]
  have HC3 : Hid (∀ W', Below W1.heap.size W1 W' → W'.cell? ⟨B, 3, none⟩ = some (.int .i64 (k : Int))) := Lib.hid fun W' hb => by rw [(HR.out.below (hb1.trans (hb.mono hb1.size))).cell (i := 3) (by omega)]; show some (Value.int .i64 s.round) = _; rw [hk]
  have HLO : Hid (∀ W', Below W1.heap.size W1 W' → (Instr.loadAt 127 (.pointer (some ⟨B, 104 + k * 34, none⟩))).run Try.prog W' = .ok (.agg (offC (s.offers k)).toArray) W') := Lib.hid fun W' hb => load_offer (HR.out.below (hb1.trans (hb.mono hb1.size))) hk12
  have hkn : (k : Int) < 12 := by omega
  clear hb1 hk1 ho1 hW
  go_upto_region 3 with fail
  have hbX : Below W1.heap.size W1 W1.drew := (Below.refl _ W1).drew
  refine wp_region_held_drew (S := fun W' => Below W1.heap.size W1 W') (by kernel_rfl) ?_ (fun hHeld => ?_)
  · exact hbX
  refine tkH (v := ?_) 0 ⟨some 11, _, _, _, _, _⟩ rfl (Or.inl ⟨by rfl, ?_⟩) ?_
  rotate_left
  · intro w hSw; (try dsimp only at hSw); go_simp; try (with_reducible rfl)
  try simp only [Act.put, nz1, nz2, nz3]
  refine tkH (v := ?_) 1 ⟨some 12, _, _, _, _, _⟩ rfl (Or.inl ⟨by rfl, ?_⟩) ?_
  rotate_left
  · intro w hSw; (try dsimp only at hSw); go_simp; try (with_reducible rfl)
  try simp only [Act.put, nz1, nz2, nz3]
  refine tkH (v := ?_) 2 ⟨some 13, _, _, _, _, _⟩ rfl (Or.inl ⟨by rfl, ?_⟩) ?_
  rotate_left
  · intro w hSw; (try dsimp only at hSw); go_simp; try (with_reducible rfl)
  try simp only [Act.put, nz1, nz2, nz3]
  refine tkH (v := ?_) 3 ⟨some 14, _, _, _, _, _⟩ rfl (Or.inl ⟨by rfl, ?_⟩) ?_
  rotate_left
  · intro w hSw; (try dsimp only at hSw); go_simp; try (with_reducible rfl)
  try simp only [Act.put, nz1, nz2, nz3]
  refine tkH (v := (.int .i64 (k : Int))) 4 ⟨some 15, _, _, _, _, _⟩ rfl (yields_one (by rfl) 3 _ rfl ⟨B, 3, none⟩ rfl _ _ (fun W' hS => HC3.out W' hS) Try.underlying3 rfl) ?_
  try simp only [Act.put, nz1, nz2, nz3]
  refine tkH (v := ?_) 5 ⟨some 16, _, _, _, _, _⟩ rfl (Or.inl ⟨by rfl, ?_⟩) ?_
  rotate_left
  · intro w hSw; (try dsimp only at hSw); go_simp; try (with_reducible rfl)
  try simp only [Act.put, nz1, nz2, nz3]
  refine tkH (v := ?_) 6 ⟨some 17, _, _, _, _, _⟩ rfl (Or.inl ⟨by rfl, ?_⟩) ?_
  rotate_left
  · intro w hSw; (try dsimp only at hSw); go_simp; try (with_reducible rfl)
  try simp only [Act.put, nz1, nz2, nz3]
  refine tkH (v := ?_) 7 ⟨some 18, _, _, _, _, _⟩ rfl (Or.inl ⟨by rfl, ?_⟩) ?_
  rotate_left
  · intro w hSw; (try dsimp only at hSw); go_simp; try (with_reducible rfl)
  try simp only [Act.put, nz1, nz2, nz3]
  refine tkH (v := (.agg (offC (s.offers k)).toArray)) 8 ⟨some 19, _, _, _, _, _⟩ rfl (yields_run (by rfl) 127 _ rfl (.pointer (some ⟨B, 104 + k * 34, none⟩)) _ rfl (fun W' hS => HLO.out W' hS)) ?_
  try simp only [Act.put, nz1, nz2, nz3]
  refine wpAnyH_ready (rs := [9]) (by kernel_rfl) (by simp) ?_
  refine (AllReadyH.cons (o := ⟨some 4, _, _, _, _, _⟩) rfl (fun K hK => ?_) AllReadyH.nil)
  (try rw [if_pos (by rfl)])
  go_simp
  generalize hW2 : World.alloc _ _ = W2
  have hb2 : Below W1.heap.size W1 W2 := by rw [← hW2]; exact (Below.refl _ W1).alloc (Nat.le_refl _) _
  obtain ⟨old2, hk2', ho2⟩ : ∃ old2, Blk W2 W1.heap.size 127 old2 ∧ old2.size = 34 := by rw [← hW2]; exact ⟨_, Blk.newAt _ _ rfl rfl, rfl⟩
  have hk2 := hk2'.drew
  replace hbX := hb2.drew
  clear hW2 hk2'
  try dsimp only
  refine hK.out _ _ (hbX) (fun hHeld => ?_)
  clear hK K
  try simp only [Act.put, nz1, nz2, nz3]
  refine wpAnyH_ready (rs := [10]) (by kernel_rfl) (by simp) ?_
  refine (AllReadyH.cons (o := ⟨none, _, _, _, _, _⟩) rfl (fun K hK => ?_) AllReadyH.nil)
  (try rw [if_pos (by rfl)])
  refine oper_store_own 127 34 _ _ rfl W1.heap.size (offC (s.offers k)) (offC_length HOI.out) (offC_one _) rfl rfl 127 _ hk2 ho2 offer_info ?_
  intro W3 hk3 hg3 hz3
  replace hbX := hbX.trans (below_of_grown hg3 (Nat.le_refl _) (by have := hk2.lt; omega))
  try dsimp only
  refine hK.out _ _ (hbX) (fun hHeld => ?_)
  clear hK K
  try simp only [Act.put]
  refine wpAnyH_done (by kernel_rfl) ?_ _
  have HBW : Hid (Below W.heap.size W W3) := Lib.hid (HB1.out.trans (hbX.mono HB1.out.size))
  have HK6 : Hid (Blk W3 W.heap.size 24 old) := Lib.hid (HK1.out.below hbX HK1.out.lt)
  have HR3 := Lib.hid (HR.out.below HBW.out)
  have hbZ : Below W3.heap.size W3 W3 := Below.refl _ _
  have HKO := Lib.hid hk3
  have HVDX := Lib.hid (trivial)
  clear hbX hk3 hg3 hz3 hk2 ho2 hb2 c4
  have hbX := hbZ
  clear hbZ
  have HLI : Hid (∀ W', Below W3.heap.size W3 W' → (Instr.loadAt 24 (.pointer (some ⟨W1.heap.size, 2, none⟩))).run Try.prog W' = .ok (idv (s.offers k).id) W') := Lib.hid fun W' hb => load_offid (HKO.out.below hb HKO.out.lt) HOI.out
  have HLOF : Hid (∀ W', Below W3.heap.size W3 W' → (Instr.loadAt 127 (.pointer (some ⟨W1.heap.size, 0, none⟩))).run Try.prog W' = .ok (.agg (offC (s.offers k)).toArray) W') := Lib.hid fun W' hb => load_off (HKO.out.below hb HKO.out.lt) HOI.out
  have HNI : Hid (∀ W', Below W3.heap.size W3 W' → Calls Try.prog 35 #[] W' fun e w' => e = .returned (idv nilId) ∧ Below W'.heap.size W' w') := Lib.hid fun W' _ => nil_any W'
  have HKN : Hid (∀ W', Below W3.heap.size W3 W' → Calls Try.prog 69 #[.pointer (some ⟨B, 0, none⟩), .agg (idC (s.offers k).id)] W' fun e w' => e = .returned (.bool (hasI s.known (s.offers k).id)) ∧ Below W'.heap.size W' w') := Lib.hid fun W' hb => knows_any (HR3.out.below hb) _ HOI.out
  have HT := Lib.hid ht
  clear ht
  have c0 : W3.cell? ⟨W1.heap.size, 0, none⟩ = some (.bool true) := by rw [HKO.out.cell, List.getElem?_toArray]; show some (Value.bool (s.offers k).there) = _; rw [HT.out]
  rw [hkn2] at HKN
  have HVV := Lib.hid hvv
  have HC1 : Hid (∀ W', Below W3.heap.size W3 W' → W'.cell? ⟨W1.heap.size, 1, none⟩ = some (.int .i64 vd)) := Lib.hid fun W' hb => by rw [(HKO.out.below hb HKO.out.lt).cell, List.getElem?_toArray]; show some (Value.int .i64 (s.offers k).valid) = _; rw [HVV.out]
  have c1 := HC1.out W3 (Below.refl _ _)
  clear hkn2 hvv
  have HC3b : Hid (∀ W', Below W3.heap.size W3 W' → W'.cell? ⟨B, 3, none⟩ = some (.int .i64 (k : Int))) := Lib.hid fun W' hb => by rw [(HR3.out.below hb).cell (i := 3) (by omega)]; show some (Value.int .i64 s.round) = _; rw [hk]
  have HV0 := Lib.hid hv0
  have HK12 := Lib.hid hk12
  have hl3 : s.lockR > vd := hl
  go_upto_region 8 with (first
    | (guard_target = wpList _ _ _ (Oper.mk _ (.load 24 (.tmp 27)) _ _ _ _ :: _) _ _; refine wpList_load_runS (by rfl) 24 _ rfl _ _ rfl (HLI.out _ hbX) ?_)
    | (go_at_call 69; refine (HKN.out _ hbX).mono ?_; rintro e Wn ⟨rfl, hbn⟩; replace hbX := hbX.trans (hbn.mono hbX.size); clear hbn))
  replace hbX := hbX.drew
  refine wp_region_held_drew (S := fun W' => Below W3.heap.size W3 W') (by kernel_rfl) ?_ (fun hHeld => ?_)
  · exact hbX
  refine tkH (v := ?_) 0 ⟨some 33, _, _, _, _, _⟩ rfl (Or.inl ⟨by rfl, ?_⟩) ?_
  rotate_left
  · intro w hSw; (try dsimp only at hSw); go_simp; try (with_reducible rfl)
  try simp only [Act.put, nz1, nz2, nz3]
  refine tkH (v := (.int .i64 vd)) 1 ⟨some 34, _, _, _, _, _⟩ rfl (yields_one (by rfl) 3 _ rfl ⟨W1.heap.size, 1, none⟩ rfl _ _ (fun W' hS => HC1.out W' hS) Try.underlying3 rfl) ?_
  try simp only [Act.put, nz1, nz2, nz3]
  refine tkH (v := ?_) 2 ⟨some 35, _, _, _, _, _⟩ rfl (Or.inl ⟨by rfl, ?_⟩) ?_
  rotate_left
  · intro w hSw; (try dsimp only at hSw); go_simp; try (with_reducible rfl)
  try simp only [Act.put, nz1, nz2, nz3]
  refine tkH (v := ?_) 3 ⟨some 36, _, _, _, _, _⟩ rfl (Or.inl ⟨by rfl, ?_⟩) ?_
  rotate_left
  · intro w hSw; (try dsimp only at hSw); go_simp; try (with_reducible rfl)
  try simp only [Act.put, nz1, nz2, nz3]
  refine tkH (v := ?_) 4 ⟨some 37, _, _, _, _, _⟩ rfl (Or.inl ⟨by rfl, ?_⟩) ?_
  rotate_left
  · intro w hSw; (try dsimp only at hSw); go_simp; try (with_reducible rfl)
  try simp only [Act.put, nz1, nz2, nz3]
  refine tkH (v := (.int .i64 (k : Int))) 5 ⟨some 38, _, _, _, _, _⟩ rfl (yields_one (by rfl) 3 _ rfl ⟨B, 3, none⟩ rfl _ _ (fun W' hS => HC3b.out W' hS) Try.underlying3 rfl) ?_
  try simp only [Act.put, nz1, nz2, nz3]
  refine tkH (v := ?_) 6 ⟨some 39, _, _, _, _, _⟩ rfl (Or.inl ⟨by rfl, ?_⟩) ?_
  rotate_left
  · intro w hSw; (try dsimp only at hSw); go_simp; try (with_reducible rfl)
  try simp only [Act.put, nz1, nz2, nz3]
  refine tkH (v := ?_) 7 ⟨some 32, _, _, _, _, _⟩ rfl (Or.inl ⟨by rfl, ?_⟩) ?_
  rotate_left
  · intro w hSw; (try dsimp only at hSw); go_simp; try (with_reducible rfl)
  try simp only [Act.put, nz1, nz2, nz3]
  refine wpAnyH_done (by kernel_rfl) ?_ _
  have c1u := HC1.out _ hbX
  go_upto_region 12 with (first
    | (guard_target = wpList _ _ _ (Oper.mk _ (.load 127 _) _ _ _ _ :: _) _ _; refine wpList_load_runS (by rfl) 127 _ rfl _ _ rfl (HLOF.out _ hbX) ?_)
    | (go_at_call 81; refine (HBK.out _ hbX).mono ?_; rintro e Wn ⟨rfl, hbn⟩; replace hbX := hbX.trans (hbn.mono hbX.size); clear hbn))
  replace hbX := hbX.drew
  refine wp_region_held_drew (S := fun W' => Below W3.heap.size W3 W') (by kernel_rfl) ?_ (fun hHeld => ?_)
  · exact hbX
  refine tkH (v := ?_) 0 ⟨some 53, _, _, _, _, _⟩ rfl (Or.inl ⟨by rfl, ?_⟩) ?_
  rotate_left
  · intro w hSw; (try dsimp only at hSw); go_simp; try (with_reducible rfl)
  try simp only [Act.put, nz1, nz2, nz3]
  refine tkH (v := ?_) 1 ⟨some 54, _, _, _, _, _⟩ rfl (Or.inl ⟨by rfl, ?_⟩) ?_
  rotate_left
  · intro w hSw; (try dsimp only at hSw); go_simp; try (with_reducible rfl)
  try simp only [Act.put, nz1, nz2, nz3]
  refine tkH (v := ?_) 2 ⟨some 55, _, _, _, _, _⟩ rfl (Or.inl ⟨by rfl, ?_⟩) ?_
  rotate_left
  · intro w hSw; (try dsimp only at hSw); go_simp; try (with_reducible rfl)
  try simp only [Act.put, nz1, nz2, nz3]
  refine tkH (v := ?_) 3 ⟨some 56, _, _, _, _, _⟩ rfl (Or.inl ⟨by rfl, ?_⟩) ?_
  rotate_left
  · intro w hSw; (try dsimp only at hSw); go_simp; try (with_reducible rfl)
  try simp only [Act.put, nz1, nz2, nz3]
  refine tkH (v := (.int .i64 s.lockR)) 4 ⟨some 57, _, _, _, _, _⟩ rfl (yields_one (by rfl) 3 _ rfl ⟨B, 37, none⟩ rfl _ _ (fun W' hS => (HR3.out.below hS).cell (i := 37) (by omega)) Try.underlying3 rfl) ?_
  try simp only [Act.put, nz1, nz2, nz3]
  refine tkH (v := ?_) 5 ⟨some 58, _, _, _, _, _⟩ rfl (Or.inl ⟨by rfl, ?_⟩) ?_
  rotate_left
  · intro w hSw; (try dsimp only at hSw); go_simp; try (with_reducible rfl)
  try simp only [Act.put, nz1, nz2, nz3]
  refine tkH (v := (.int .i64 vd)) 6 ⟨some 59, _, _, _, _, _⟩ rfl (yields_one (by rfl) 3 _ rfl ⟨W1.heap.size, 1, none⟩ rfl _ _ (fun W' hS => HC1.out W' hS) Try.underlying3 rfl) ?_
  try simp only [Act.put, nz1, nz2, nz3]
  refine tkH (v := (.bool true)) 7 ⟨some 60, _, _, _, _, _⟩ rfl (yields_binR (by rfl) .gtr 3 _ _ _ rfl (.int .i64 s.lockR) (.int .i64 vd) rfl rfl _ (fun w => by rfl) (fun w => int_gtr _ _ _ (by simpa using hl) w)) ?_
  try simp only [Act.put, nz1, nz2, nz3]
  refine tkH (v := ?_) 8 ⟨some 61, _, _, _, _, _⟩ rfl (Or.inl ⟨by rfl, ?_⟩) ?_
  rotate_left
  · intro w hSw; (try dsimp only at hSw); go_simp; try (with_reducible rfl)
  try simp only [Act.put, nz1, nz2, nz3]
  refine tkH (v := ?_) 9 ⟨some 62, _, _, _, _, _⟩ rfl (Or.inl ⟨by rfl, ?_⟩) ?_
  rotate_left
  · intro w hSw; (try dsimp only at hSw); go_simp; try (with_reducible rfl)
  try simp only [Act.put, nz1, nz2, nz3]
  refine tkH (v := ?_) 10 ⟨some 63, _, _, _, _, _⟩ rfl (Or.inl ⟨by rfl, ?_⟩) ?_
  rotate_left
  · intro w hSw; (try dsimp only at hSw); go_simp; try (with_reducible rfl)
  try simp only [Act.put, nz1, nz2, nz3]
  refine tkH (v := ?_) 11 ⟨some 64, _, _, _, _, _⟩ rfl (Or.inl ⟨by rfl, ?_⟩) ?_
  rotate_left
  · intro w hSw; (try dsimp only at hSw); go_simp; try (with_reducible rfl)
  try simp only [Act.put, nz1, nz2, nz3]
  refine tkH (v := ?_) 12 ⟨some 65, _, _, _, _, _⟩ rfl (Or.inl ⟨by rfl, ?_⟩) ?_
  rotate_left
  · intro w hSw; (try dsimp only at hSw); go_simp; try (with_reducible rfl)
  try simp only [Act.put, nz1, nz2, nz3]
  refine tkH (v := (idv s.lock)) 13 ⟨some 66, _, _, _, _, _⟩ rfl (yields_run (by rfl) 24 _ rfl (.pointer (some ⟨B, 38, none⟩)) _ rfl (fun W' hS => (HR3.out.below hS).loadLock)) ?_
  try simp only [Act.put, nz1, nz2, nz3]
  refine tkH (v := ?_) 14 ⟨some 67, _, _, _, _, _⟩ rfl (Or.inl ⟨by rfl, ?_⟩) ?_
  rotate_left
  · intro w hSw; (try dsimp only at hSw); go_simp; try (with_reducible rfl)
  try simp only [Act.put, nz1, nz2, nz3]
  refine tkH (v := (idv (s.offers k).id)) 15 ⟨some 68, _, _, _, _, _⟩ rfl (yields_run (by rfl) 24 _ rfl (.pointer (some ⟨W1.heap.size, 2, none⟩)) _ rfl (fun W' hS => HLI.out W' hS)) ?_
  try simp only [Act.put, nz1, nz2, nz3]
  refine tkH (v := (.bool (!(s.lock == (s.offers k).id)))) 16 ⟨some 69, _, _, _, _, _⟩ rfl (yields_neI (by rfl) _ _ rfl s.lock (s.offers k).id rfl rfl HR3.out.ok.lock HOI.out) ?_
  try simp only [Act.put, nz1, nz2, nz3]
  refine tkH (v := ?_) 17 ⟨some 70, _, _, _, _, _⟩ rfl (Or.inl ⟨by rfl, ?_⟩) ?_
  rotate_left
  · intro w hSw; (try dsimp only at hSw); go_simp; try (with_reducible rfl)
  try simp only [Act.put, nz1, nz2, nz3]
  refine tkH (v := ?_) 18 ⟨some 52, _, _, _, _, _⟩ rfl (Or.inl ⟨by rfl, ?_⟩) ?_
  rotate_left
  · intro w hSw; (try dsimp only at hSw); go_simp; try (with_reducible rfl)
  try simp only [Act.put, nz1, nz2, nz3]
  refine wpAnyH_done (by kernel_rfl) ?_ _
  go_wp2_with (first
    | (go_at_call 35; refine (HNI.out _ hbX).mono ?_; rintro e Wn ⟨rfl, hbn⟩; replace hbX := hbX.trans (hbn.mono hbX.size); clear hbn)
    | (guard_target = wpList _ _ _ (Oper.mk _ (.store 24 _ _) _ _ _ _ :: _) _ _; refine wpList_store_idv rfl _ _ rfl W.heap.size (nilId) rfl rfl nilId_ok 24 _ (HK6.out.below hbX HK6.out.lt) HO1.out ?_; intro W9 hS9 hz9 hb9 hk9))
  refine bodyPost_ret (results_cell_tmp (p := 2) (q := 3) rfl _ _ W.heap.size 24 (idC (nilId)) _ rfl hS9 Try.underlying24 rfl (by rw [idC_size nilId_ok]; exact id_info)) rfl ?_
  exact ⟨by rw [HFIN.out]; rfl, (HBW.out.trans (hbX.mono HBW.out.size)).trans hb9⟩
set_option maxRecDepth 100000 in
set_option maxHeartbeats 8000000 in
theorem choice_held_old {W : World} {B C M n : Nat} {kv : Value} {s : RdS} (h : RoundAt W B C M n kv s) (k : Nat) (hk : s.round = (k : Int)) (hk12 : k < 12) (hs : s.step = 0) (ht : (s.offers k).there = true) (hkn2 : hasI s.known (s.offers k).id = true) (vd : Int) (hvv : (s.offers k).valid = vd) (hab : ¬ (k : Int) < vd) (hv0 : 0 < vd) (hbk : backedS s (s.offers k) = true) (hl : vd < s.lockR) (hl2 : (s.lock == (s.offers k).id) = false) : Calls Try.prog 77 #[.pointer (some ⟨B, 0, none⟩)] W fun e w' => e = .returned (.tuple #[idv ((choiceS s).getD zeroId), .bool (choiceS s).isSome]) ∧ Below W.heap.size W w' := by
  have HFIN : Hid (choiceS s = some nilId) := Lib.hid (by
    unfold choiceS
    rw [if_neg (fun e => e hs)]
    dsimp only
    rw [hk, Int.toNat_natCast]
    rw [if_neg (fun e => by rcases e with e | e <;> simp_all)]; rw [hvv]; rw [if_neg hab, if_neg (fun e => by have := e.2; rw [hbk] at this; cases this)]; rw [if_pos ⟨hl, fun e => by rw [e] at hl2; simp at hl2⟩])
  have HR := Lib.hid h
  have HOI : Hid (IdOk (s.offers k).id) := Lib.hid (h.ok.offers k hk12).1
  have HVD : Hid (0 ≤ (s.offers k).valid ∧ (s.offers k).valid ≤ (k : Int)) := Lib.hid (h.ok.offers k hk12).2
  clear h
  go_enter Try.func77, Try.ntmps77
  go_upto_region 1 with fail
  generalize hW : World.alloc _ _ = W1
  have hb1 : Below W.heap.size W W1 := by rw [← hW]; exact (Below.refl _ _).alloc (Nat.le_refl _) _
  obtain ⟨old, hk1, ho1⟩ : ∃ old, Blk W1 W.heap.size 24 old ∧ old.size = 32 := by rw [← hW]; exact ⟨_, Blk.newAt _ _ rfl rfl, rfl⟩
  have HO1 := Lib.hid ho1
  have HB1 := Lib.hid hb1
  have HK1 := Lib.hid hk1
  have c4 : W1.cell? ⟨B, 4, none⟩ = some (.int .i64 0) := by rw [(HR.out.below hb1).cell (i := 4) (by omega)]; show some (Value.int .i64 s.step) = _; rw [hs]
  have HC3 : Hid (∀ W', Below W1.heap.size W1 W' → W'.cell? ⟨B, 3, none⟩ = some (.int .i64 (k : Int))) := Lib.hid fun W' hb => by rw [(HR.out.below (hb1.trans (hb.mono hb1.size))).cell (i := 3) (by omega)]; show some (Value.int .i64 s.round) = _; rw [hk]
  have HLO : Hid (∀ W', Below W1.heap.size W1 W' → (Instr.loadAt 127 (.pointer (some ⟨B, 104 + k * 34, none⟩))).run Try.prog W' = .ok (.agg (offC (s.offers k)).toArray) W') := Lib.hid fun W' hb => load_offer (HR.out.below (hb1.trans (hb.mono hb1.size))) hk12
  have hkn : (k : Int) < 12 := by omega
  clear hb1 hk1 ho1 hW
  go_upto_region 3 with fail
  have hbX : Below W1.heap.size W1 W1.drew := (Below.refl _ W1).drew
  refine wp_region_held_drew (S := fun W' => Below W1.heap.size W1 W') (by kernel_rfl) ?_ (fun hHeld => ?_)
  · exact hbX
  refine tkH (v := ?_) 0 ⟨some 11, _, _, _, _, _⟩ rfl (Or.inl ⟨by rfl, ?_⟩) ?_
  rotate_left
  · intro w hSw; (try dsimp only at hSw); go_simp; try (with_reducible rfl)
  try simp only [Act.put, nz1, nz2, nz3]
  refine tkH (v := ?_) 1 ⟨some 12, _, _, _, _, _⟩ rfl (Or.inl ⟨by rfl, ?_⟩) ?_
  rotate_left
  · intro w hSw; (try dsimp only at hSw); go_simp; try (with_reducible rfl)
  try simp only [Act.put, nz1, nz2, nz3]
  refine tkH (v := ?_) 2 ⟨some 13, _, _, _, _, _⟩ rfl (Or.inl ⟨by rfl, ?_⟩) ?_
  rotate_left
  · intro w hSw; (try dsimp only at hSw); go_simp; try (with_reducible rfl)
  try simp only [Act.put, nz1, nz2, nz3]
  refine tkH (v := ?_) 3 ⟨some 14, _, _, _, _, _⟩ rfl (Or.inl ⟨by rfl, ?_⟩) ?_
  rotate_left
  · intro w hSw; (try dsimp only at hSw); go_simp; try (with_reducible rfl)
  try simp only [Act.put, nz1, nz2, nz3]
  refine tkH (v := (.int .i64 (k : Int))) 4 ⟨some 15, _, _, _, _, _⟩ rfl (yields_one (by rfl) 3 _ rfl ⟨B, 3, none⟩ rfl _ _ (fun W' hS => HC3.out W' hS) Try.underlying3 rfl) ?_
  try simp only [Act.put, nz1, nz2, nz3]
  refine tkH (v := ?_) 5 ⟨some 16, _, _, _, _, _⟩ rfl (Or.inl ⟨by rfl, ?_⟩) ?_
  rotate_left
  · intro w hSw; (try dsimp only at hSw); go_simp; try (with_reducible rfl)
  try simp only [Act.put, nz1, nz2, nz3]
  refine tkH (v := ?_) 6 ⟨some 17, _, _, _, _, _⟩ rfl (Or.inl ⟨by rfl, ?_⟩) ?_
  rotate_left
  · intro w hSw; (try dsimp only at hSw); go_simp; try (with_reducible rfl)
  try simp only [Act.put, nz1, nz2, nz3]
  refine tkH (v := ?_) 7 ⟨some 18, _, _, _, _, _⟩ rfl (Or.inl ⟨by rfl, ?_⟩) ?_
  rotate_left
  · intro w hSw; (try dsimp only at hSw); go_simp; try (with_reducible rfl)
  try simp only [Act.put, nz1, nz2, nz3]
  refine tkH (v := (.agg (offC (s.offers k)).toArray)) 8 ⟨some 19, _, _, _, _, _⟩ rfl (yields_run (by rfl) 127 _ rfl (.pointer (some ⟨B, 104 + k * 34, none⟩)) _ rfl (fun W' hS => HLO.out W' hS)) ?_
  try simp only [Act.put, nz1, nz2, nz3]
  refine wpAnyH_ready (rs := [9]) (by kernel_rfl) (by simp) ?_
  refine (AllReadyH.cons (o := ⟨some 4, _, _, _, _, _⟩) rfl (fun K hK => ?_) AllReadyH.nil)
  (try rw [if_pos (by rfl)])
  go_simp
  generalize hW2 : World.alloc _ _ = W2
  have hb2 : Below W1.heap.size W1 W2 := by rw [← hW2]; exact (Below.refl _ W1).alloc (Nat.le_refl _) _
  obtain ⟨old2, hk2', ho2⟩ : ∃ old2, Blk W2 W1.heap.size 127 old2 ∧ old2.size = 34 := by rw [← hW2]; exact ⟨_, Blk.newAt _ _ rfl rfl, rfl⟩
  have hk2 := hk2'.drew
  replace hbX := hb2.drew
  clear hW2 hk2'
  try dsimp only
  refine hK.out _ _ (hbX) (fun hHeld => ?_)
  clear hK K
  try simp only [Act.put, nz1, nz2, nz3]
  refine wpAnyH_ready (rs := [10]) (by kernel_rfl) (by simp) ?_
  refine (AllReadyH.cons (o := ⟨none, _, _, _, _, _⟩) rfl (fun K hK => ?_) AllReadyH.nil)
  (try rw [if_pos (by rfl)])
  refine oper_store_own 127 34 _ _ rfl W1.heap.size (offC (s.offers k)) (offC_length HOI.out) (offC_one _) rfl rfl 127 _ hk2 ho2 offer_info ?_
  intro W3 hk3 hg3 hz3
  replace hbX := hbX.trans (below_of_grown hg3 (Nat.le_refl _) (by have := hk2.lt; omega))
  try dsimp only
  refine hK.out _ _ (hbX) (fun hHeld => ?_)
  clear hK K
  try simp only [Act.put]
  refine wpAnyH_done (by kernel_rfl) ?_ _
  have HBW : Hid (Below W.heap.size W W3) := Lib.hid (HB1.out.trans (hbX.mono HB1.out.size))
  have HK6 : Hid (Blk W3 W.heap.size 24 old) := Lib.hid (HK1.out.below hbX HK1.out.lt)
  have HR3 := Lib.hid (HR.out.below HBW.out)
  have hbZ : Below W3.heap.size W3 W3 := Below.refl _ _
  have HKO := Lib.hid hk3
  have HVDX := Lib.hid (trivial)
  clear hbX hk3 hg3 hz3 hk2 ho2 hb2 c4
  have hbX := hbZ
  clear hbZ
  have HLI : Hid (∀ W', Below W3.heap.size W3 W' → (Instr.loadAt 24 (.pointer (some ⟨W1.heap.size, 2, none⟩))).run Try.prog W' = .ok (idv (s.offers k).id) W') := Lib.hid fun W' hb => load_offid (HKO.out.below hb HKO.out.lt) HOI.out
  have HLOF : Hid (∀ W', Below W3.heap.size W3 W' → (Instr.loadAt 127 (.pointer (some ⟨W1.heap.size, 0, none⟩))).run Try.prog W' = .ok (.agg (offC (s.offers k)).toArray) W') := Lib.hid fun W' hb => load_off (HKO.out.below hb HKO.out.lt) HOI.out
  have HNI : Hid (∀ W', Below W3.heap.size W3 W' → Calls Try.prog 35 #[] W' fun e w' => e = .returned (idv nilId) ∧ Below W'.heap.size W' w') := Lib.hid fun W' _ => nil_any W'
  have HKN : Hid (∀ W', Below W3.heap.size W3 W' → Calls Try.prog 69 #[.pointer (some ⟨B, 0, none⟩), .agg (idC (s.offers k).id)] W' fun e w' => e = .returned (.bool (hasI s.known (s.offers k).id)) ∧ Below W'.heap.size W' w') := Lib.hid fun W' hb => knows_any (HR3.out.below hb) _ HOI.out
  have HT := Lib.hid ht
  clear ht
  have c0 : W3.cell? ⟨W1.heap.size, 0, none⟩ = some (.bool true) := by rw [HKO.out.cell, List.getElem?_toArray]; show some (Value.bool (s.offers k).there) = _; rw [HT.out]
  rw [hkn2] at HKN
  have HVV := Lib.hid hvv
  have HC1 : Hid (∀ W', Below W3.heap.size W3 W' → W'.cell? ⟨W1.heap.size, 1, none⟩ = some (.int .i64 vd)) := Lib.hid fun W' hb => by rw [(HKO.out.below hb HKO.out.lt).cell, List.getElem?_toArray]; show some (Value.int .i64 (s.offers k).valid) = _; rw [HVV.out]
  have c1 := HC1.out W3 (Below.refl _ _)
  clear hkn2 hvv
  have HC3b : Hid (∀ W', Below W3.heap.size W3 W' → W'.cell? ⟨B, 3, none⟩ = some (.int .i64 (k : Int))) := Lib.hid fun W' hb => by rw [(HR3.out.below hb).cell (i := 3) (by omega)]; show some (Value.int .i64 s.round) = _; rw [hk]
  have HV0 := Lib.hid hv0
  have HK12 := Lib.hid hk12
  have HBK : Hid (∀ W', Below W3.heap.size W3 W' → Calls Try.prog 81 #[.pointer (some ⟨B, 0, none⟩), .agg (offC (s.offers k)).toArray] W' fun e w' => e = .returned (.bool (backedS s (s.offers k))) ∧ Below W'.heap.size W' w') := Lib.hid fun W' hb => backed_any (HR3.out.below hb) _ HOI.out ⟨by rw [HVV.out]; exact HV0.out, by have := HVD.out; have := HK12.out; omega⟩
  rw [hbk] at HBK
  clear hbk
  have hl3 : s.lockR > vd := hl
  go_upto_region 8 with (first
    | (guard_target = wpList _ _ _ (Oper.mk _ (.load 24 (.tmp 27)) _ _ _ _ :: _) _ _; refine wpList_load_runS (by rfl) 24 _ rfl _ _ rfl (HLI.out _ hbX) ?_)
    | (go_at_call 69; refine (HKN.out _ hbX).mono ?_; rintro e Wn ⟨rfl, hbn⟩; replace hbX := hbX.trans (hbn.mono hbX.size); clear hbn))
  replace hbX := hbX.drew
  refine wp_region_held_drew (S := fun W' => Below W3.heap.size W3 W') (by kernel_rfl) ?_ (fun hHeld => ?_)
  · exact hbX
  refine tkH (v := ?_) 0 ⟨some 33, _, _, _, _, _⟩ rfl (Or.inl ⟨by rfl, ?_⟩) ?_
  rotate_left
  · intro w hSw; (try dsimp only at hSw); go_simp; try (with_reducible rfl)
  try simp only [Act.put, nz1, nz2, nz3]
  refine tkH (v := (.int .i64 vd)) 1 ⟨some 34, _, _, _, _, _⟩ rfl (yields_one (by rfl) 3 _ rfl ⟨W1.heap.size, 1, none⟩ rfl _ _ (fun W' hS => HC1.out W' hS) Try.underlying3 rfl) ?_
  try simp only [Act.put, nz1, nz2, nz3]
  refine tkH (v := ?_) 2 ⟨some 35, _, _, _, _, _⟩ rfl (Or.inl ⟨by rfl, ?_⟩) ?_
  rotate_left
  · intro w hSw; (try dsimp only at hSw); go_simp; try (with_reducible rfl)
  try simp only [Act.put, nz1, nz2, nz3]
  refine tkH (v := ?_) 3 ⟨some 36, _, _, _, _, _⟩ rfl (Or.inl ⟨by rfl, ?_⟩) ?_
  rotate_left
  · intro w hSw; (try dsimp only at hSw); go_simp; try (with_reducible rfl)
  try simp only [Act.put, nz1, nz2, nz3]
  refine tkH (v := ?_) 4 ⟨some 37, _, _, _, _, _⟩ rfl (Or.inl ⟨by rfl, ?_⟩) ?_
  rotate_left
  · intro w hSw; (try dsimp only at hSw); go_simp; try (with_reducible rfl)
  try simp only [Act.put, nz1, nz2, nz3]
  refine tkH (v := (.int .i64 (k : Int))) 5 ⟨some 38, _, _, _, _, _⟩ rfl (yields_one (by rfl) 3 _ rfl ⟨B, 3, none⟩ rfl _ _ (fun W' hS => HC3b.out W' hS) Try.underlying3 rfl) ?_
  try simp only [Act.put, nz1, nz2, nz3]
  refine tkH (v := ?_) 6 ⟨some 39, _, _, _, _, _⟩ rfl (Or.inl ⟨by rfl, ?_⟩) ?_
  rotate_left
  · intro w hSw; (try dsimp only at hSw); go_simp; try (with_reducible rfl)
  try simp only [Act.put, nz1, nz2, nz3]
  refine tkH (v := ?_) 7 ⟨some 32, _, _, _, _, _⟩ rfl (Or.inl ⟨by rfl, ?_⟩) ?_
  rotate_left
  · intro w hSw; (try dsimp only at hSw); go_simp; try (with_reducible rfl)
  try simp only [Act.put, nz1, nz2, nz3]
  refine wpAnyH_done (by kernel_rfl) ?_ _
  have c1u := HC1.out _ hbX
  go_upto_region 12 with (first
    | (guard_target = wpList _ _ _ (Oper.mk _ (.load 127 _) _ _ _ _ :: _) _ _; refine wpList_load_runS (by rfl) 127 _ rfl _ _ rfl (HLOF.out _ hbX) ?_)
    | (go_at_call 81; refine (HBK.out _ hbX).mono ?_; rintro e Wn ⟨rfl, hbn⟩; replace hbX := hbX.trans (hbn.mono hbX.size); clear hbn))
  replace hbX := hbX.drew
  refine wp_region_held_drew (S := fun W' => Below W3.heap.size W3 W') (by kernel_rfl) ?_ (fun hHeld => ?_)
  · exact hbX
  refine tkH (v := ?_) 0 ⟨some 53, _, _, _, _, _⟩ rfl (Or.inl ⟨by rfl, ?_⟩) ?_
  rotate_left
  · intro w hSw; (try dsimp only at hSw); go_simp; try (with_reducible rfl)
  try simp only [Act.put, nz1, nz2, nz3]
  refine tkH (v := ?_) 1 ⟨some 54, _, _, _, _, _⟩ rfl (Or.inl ⟨by rfl, ?_⟩) ?_
  rotate_left
  · intro w hSw; (try dsimp only at hSw); go_simp; try (with_reducible rfl)
  try simp only [Act.put, nz1, nz2, nz3]
  refine tkH (v := ?_) 2 ⟨some 55, _, _, _, _, _⟩ rfl (Or.inl ⟨by rfl, ?_⟩) ?_
  rotate_left
  · intro w hSw; (try dsimp only at hSw); go_simp; try (with_reducible rfl)
  try simp only [Act.put, nz1, nz2, nz3]
  refine tkH (v := ?_) 3 ⟨some 56, _, _, _, _, _⟩ rfl (Or.inl ⟨by rfl, ?_⟩) ?_
  rotate_left
  · intro w hSw; (try dsimp only at hSw); go_simp; try (with_reducible rfl)
  try simp only [Act.put, nz1, nz2, nz3]
  refine tkH (v := (.int .i64 s.lockR)) 4 ⟨some 57, _, _, _, _, _⟩ rfl (yields_one (by rfl) 3 _ rfl ⟨B, 37, none⟩ rfl _ _ (fun W' hS => (HR3.out.below hS).cell (i := 37) (by omega)) Try.underlying3 rfl) ?_
  try simp only [Act.put, nz1, nz2, nz3]
  refine tkH (v := ?_) 5 ⟨some 58, _, _, _, _, _⟩ rfl (Or.inl ⟨by rfl, ?_⟩) ?_
  rotate_left
  · intro w hSw; (try dsimp only at hSw); go_simp; try (with_reducible rfl)
  try simp only [Act.put, nz1, nz2, nz3]
  refine tkH (v := (.int .i64 vd)) 6 ⟨some 59, _, _, _, _, _⟩ rfl (yields_one (by rfl) 3 _ rfl ⟨W1.heap.size, 1, none⟩ rfl _ _ (fun W' hS => HC1.out W' hS) Try.underlying3 rfl) ?_
  try simp only [Act.put, nz1, nz2, nz3]
  refine tkH (v := (.bool true)) 7 ⟨some 60, _, _, _, _, _⟩ rfl (yields_binR (by rfl) .gtr 3 _ _ _ rfl (.int .i64 s.lockR) (.int .i64 vd) rfl rfl _ (fun w => by rfl) (fun w => int_gtr _ _ _ (by simpa using hl) w)) ?_
  try simp only [Act.put, nz1, nz2, nz3]
  refine tkH (v := ?_) 8 ⟨some 61, _, _, _, _, _⟩ rfl (Or.inl ⟨by rfl, ?_⟩) ?_
  rotate_left
  · intro w hSw; (try dsimp only at hSw); go_simp; try (with_reducible rfl)
  try simp only [Act.put, nz1, nz2, nz3]
  refine tkH (v := ?_) 9 ⟨some 62, _, _, _, _, _⟩ rfl (Or.inl ⟨by rfl, ?_⟩) ?_
  rotate_left
  · intro w hSw; (try dsimp only at hSw); go_simp; try (with_reducible rfl)
  try simp only [Act.put, nz1, nz2, nz3]
  refine tkH (v := ?_) 10 ⟨some 63, _, _, _, _, _⟩ rfl (Or.inl ⟨by rfl, ?_⟩) ?_
  rotate_left
  · intro w hSw; (try dsimp only at hSw); go_simp; try (with_reducible rfl)
  try simp only [Act.put, nz1, nz2, nz3]
  refine tkH (v := ?_) 11 ⟨some 64, _, _, _, _, _⟩ rfl (Or.inl ⟨by rfl, ?_⟩) ?_
  rotate_left
  · intro w hSw; (try dsimp only at hSw); go_simp; try (with_reducible rfl)
  try simp only [Act.put, nz1, nz2, nz3]
  refine tkH (v := ?_) 12 ⟨some 65, _, _, _, _, _⟩ rfl (Or.inl ⟨by rfl, ?_⟩) ?_
  rotate_left
  · intro w hSw; (try dsimp only at hSw); go_simp; try (with_reducible rfl)
  try simp only [Act.put, nz1, nz2, nz3]
  refine tkH (v := (idv s.lock)) 13 ⟨some 66, _, _, _, _, _⟩ rfl (yields_run (by rfl) 24 _ rfl (.pointer (some ⟨B, 38, none⟩)) _ rfl (fun W' hS => (HR3.out.below hS).loadLock)) ?_
  try simp only [Act.put, nz1, nz2, nz3]
  refine tkH (v := ?_) 14 ⟨some 67, _, _, _, _, _⟩ rfl (Or.inl ⟨by rfl, ?_⟩) ?_
  rotate_left
  · intro w hSw; (try dsimp only at hSw); go_simp; try (with_reducible rfl)
  try simp only [Act.put, nz1, nz2, nz3]
  refine tkH (v := (idv (s.offers k).id)) 15 ⟨some 68, _, _, _, _, _⟩ rfl (yields_run (by rfl) 24 _ rfl (.pointer (some ⟨W1.heap.size, 2, none⟩)) _ rfl (fun W' hS => HLI.out W' hS)) ?_
  try simp only [Act.put, nz1, nz2, nz3]
  refine tkH (v := (.bool (!(s.lock == (s.offers k).id)))) 16 ⟨some 69, _, _, _, _, _⟩ rfl (yields_neI (by rfl) _ _ rfl s.lock (s.offers k).id rfl rfl HR3.out.ok.lock HOI.out) ?_
  try simp only [Act.put, nz1, nz2, nz3]
  refine tkH (v := ?_) 17 ⟨some 70, _, _, _, _, _⟩ rfl (Or.inl ⟨by rfl, ?_⟩) ?_
  rotate_left
  · intro w hSw; (try dsimp only at hSw); go_simp; try (with_reducible rfl)
  try simp only [Act.put, nz1, nz2, nz3]
  refine tkH (v := ?_) 18 ⟨some 52, _, _, _, _, _⟩ rfl (Or.inl ⟨by rfl, ?_⟩) ?_
  rotate_left
  · intro w hSw; (try dsimp only at hSw); go_simp; try (with_reducible rfl)
  try simp only [Act.put, nz1, nz2, nz3]
  refine wpAnyH_done (by kernel_rfl) ?_ _
  go_wp2_with (first
    | (go_at_call 35; refine (HNI.out _ hbX).mono ?_; rintro e Wn ⟨rfl, hbn⟩; replace hbX := hbX.trans (hbn.mono hbX.size); clear hbn)
    | (guard_target = wpList _ _ _ (Oper.mk _ (.store 24 _ _) _ _ _ _ :: _) _ _; refine wpList_store_idv rfl _ _ rfl W.heap.size (nilId) rfl rfl nilId_ok 24 _ (HK6.out.below hbX HK6.out.lt) HO1.out ?_; intro W9 hS9 hz9 hb9 hk9))
  refine bodyPost_ret (results_cell_tmp (p := 2) (q := 3) rfl _ _ W.heap.size 24 (idC (nilId)) _ rfl hS9 Try.underlying24 rfl (by rw [idC_size nilId_ok]; exact id_info)) rfl ?_
  exact ⟨by rw [HFIN.out]; rfl, (HBW.out.trans (hbX.mono HBW.out.size)).trans hb9⟩
set_option maxRecDepth 100000 in
set_option maxHeartbeats 8000000 in
theorem choice_same_zero {W : World} {B C M n : Nat} {kv : Value} {s : RdS} (h : RoundAt W B C M n kv s) (k : Nat) (hk : s.round = (k : Int)) (hk12 : k < 12) (hs : s.step = 0) (ht : (s.offers k).there = true) (hkn2 : hasI s.known (s.offers k).id = true) (vd : Int) (hvv : (s.offers k).valid = vd) (hab : ¬ (k : Int) < vd) (hv0 : ¬ 0 < vd) (hl : vd < s.lockR) (hl2 : (s.lock == (s.offers k).id) = true) : Calls Try.prog 77 #[.pointer (some ⟨B, 0, none⟩)] W fun e w' => e = .returned (.tuple #[idv ((choiceS s).getD zeroId), .bool (choiceS s).isSome]) ∧ Below W.heap.size W w' := by
  have HFIN : Hid (choiceS s = some (s.offers k).id) := Lib.hid (by
    unfold choiceS
    rw [if_neg (fun e => e hs)]
    dsimp only
    rw [hk, Int.toNat_natCast]
    rw [if_neg (fun e => by rcases e with e | e <;> simp_all)]; rw [hvv]; rw [if_neg hab, if_neg (fun e => hv0 e.1)]; rw [if_neg (fun e => e.2 (by simpa using hl2))])
  have HR := Lib.hid h
  have HOI : Hid (IdOk (s.offers k).id) := Lib.hid (h.ok.offers k hk12).1
  have HVD : Hid (0 ≤ (s.offers k).valid ∧ (s.offers k).valid ≤ (k : Int)) := Lib.hid (h.ok.offers k hk12).2
  clear h
  go_enter Try.func77, Try.ntmps77
  go_upto_region 1 with fail
  generalize hW : World.alloc _ _ = W1
  have hb1 : Below W.heap.size W W1 := by rw [← hW]; exact (Below.refl _ _).alloc (Nat.le_refl _) _
  obtain ⟨old, hk1, ho1⟩ : ∃ old, Blk W1 W.heap.size 24 old ∧ old.size = 32 := by rw [← hW]; exact ⟨_, Blk.newAt _ _ rfl rfl, rfl⟩
  have HO1 := Lib.hid ho1
  have HB1 := Lib.hid hb1
  have HK1 := Lib.hid hk1
  have c4 : W1.cell? ⟨B, 4, none⟩ = some (.int .i64 0) := by rw [(HR.out.below hb1).cell (i := 4) (by omega)]; show some (Value.int .i64 s.step) = _; rw [hs]
  have HC3 : Hid (∀ W', Below W1.heap.size W1 W' → W'.cell? ⟨B, 3, none⟩ = some (.int .i64 (k : Int))) := Lib.hid fun W' hb => by rw [(HR.out.below (hb1.trans (hb.mono hb1.size))).cell (i := 3) (by omega)]; show some (Value.int .i64 s.round) = _; rw [hk]
  have HLO : Hid (∀ W', Below W1.heap.size W1 W' → (Instr.loadAt 127 (.pointer (some ⟨B, 104 + k * 34, none⟩))).run Try.prog W' = .ok (.agg (offC (s.offers k)).toArray) W') := Lib.hid fun W' hb => load_offer (HR.out.below (hb1.trans (hb.mono hb1.size))) hk12
  have hkn : (k : Int) < 12 := by omega
  clear hb1 hk1 ho1 hW
  go_upto_region 3 with fail
  have hbX : Below W1.heap.size W1 W1.drew := (Below.refl _ W1).drew
  refine wp_region_held_drew (S := fun W' => Below W1.heap.size W1 W') (by kernel_rfl) ?_ (fun hHeld => ?_)
  · exact hbX
  refine tkH (v := ?_) 0 ⟨some 11, _, _, _, _, _⟩ rfl (Or.inl ⟨by rfl, ?_⟩) ?_
  rotate_left
  · intro w hSw; (try dsimp only at hSw); go_simp; try (with_reducible rfl)
  try simp only [Act.put, nz1, nz2, nz3]
  refine tkH (v := ?_) 1 ⟨some 12, _, _, _, _, _⟩ rfl (Or.inl ⟨by rfl, ?_⟩) ?_
  rotate_left
  · intro w hSw; (try dsimp only at hSw); go_simp; try (with_reducible rfl)
  try simp only [Act.put, nz1, nz2, nz3]
  refine tkH (v := ?_) 2 ⟨some 13, _, _, _, _, _⟩ rfl (Or.inl ⟨by rfl, ?_⟩) ?_
  rotate_left
  · intro w hSw; (try dsimp only at hSw); go_simp; try (with_reducible rfl)
  try simp only [Act.put, nz1, nz2, nz3]
  refine tkH (v := ?_) 3 ⟨some 14, _, _, _, _, _⟩ rfl (Or.inl ⟨by rfl, ?_⟩) ?_
  rotate_left
  · intro w hSw; (try dsimp only at hSw); go_simp; try (with_reducible rfl)
  try simp only [Act.put, nz1, nz2, nz3]
  refine tkH (v := (.int .i64 (k : Int))) 4 ⟨some 15, _, _, _, _, _⟩ rfl (yields_one (by rfl) 3 _ rfl ⟨B, 3, none⟩ rfl _ _ (fun W' hS => HC3.out W' hS) Try.underlying3 rfl) ?_
  try simp only [Act.put, nz1, nz2, nz3]
  refine tkH (v := ?_) 5 ⟨some 16, _, _, _, _, _⟩ rfl (Or.inl ⟨by rfl, ?_⟩) ?_
  rotate_left
  · intro w hSw; (try dsimp only at hSw); go_simp; try (with_reducible rfl)
  try simp only [Act.put, nz1, nz2, nz3]
  refine tkH (v := ?_) 6 ⟨some 17, _, _, _, _, _⟩ rfl (Or.inl ⟨by rfl, ?_⟩) ?_
  rotate_left
  · intro w hSw; (try dsimp only at hSw); go_simp; try (with_reducible rfl)
  try simp only [Act.put, nz1, nz2, nz3]
  refine tkH (v := ?_) 7 ⟨some 18, _, _, _, _, _⟩ rfl (Or.inl ⟨by rfl, ?_⟩) ?_
  rotate_left
  · intro w hSw; (try dsimp only at hSw); go_simp; try (with_reducible rfl)
  try simp only [Act.put, nz1, nz2, nz3]
  refine tkH (v := (.agg (offC (s.offers k)).toArray)) 8 ⟨some 19, _, _, _, _, _⟩ rfl (yields_run (by rfl) 127 _ rfl (.pointer (some ⟨B, 104 + k * 34, none⟩)) _ rfl (fun W' hS => HLO.out W' hS)) ?_
  try simp only [Act.put, nz1, nz2, nz3]
  refine wpAnyH_ready (rs := [9]) (by kernel_rfl) (by simp) ?_
  refine (AllReadyH.cons (o := ⟨some 4, _, _, _, _, _⟩) rfl (fun K hK => ?_) AllReadyH.nil)
  (try rw [if_pos (by rfl)])
  go_simp
  generalize hW2 : World.alloc _ _ = W2
  have hb2 : Below W1.heap.size W1 W2 := by rw [← hW2]; exact (Below.refl _ W1).alloc (Nat.le_refl _) _
  obtain ⟨old2, hk2', ho2⟩ : ∃ old2, Blk W2 W1.heap.size 127 old2 ∧ old2.size = 34 := by rw [← hW2]; exact ⟨_, Blk.newAt _ _ rfl rfl, rfl⟩
  have hk2 := hk2'.drew
  replace hbX := hb2.drew
  clear hW2 hk2'
  try dsimp only
  refine hK.out _ _ (hbX) (fun hHeld => ?_)
  clear hK K
  try simp only [Act.put, nz1, nz2, nz3]
  refine wpAnyH_ready (rs := [10]) (by kernel_rfl) (by simp) ?_
  refine (AllReadyH.cons (o := ⟨none, _, _, _, _, _⟩) rfl (fun K hK => ?_) AllReadyH.nil)
  (try rw [if_pos (by rfl)])
  refine oper_store_own 127 34 _ _ rfl W1.heap.size (offC (s.offers k)) (offC_length HOI.out) (offC_one _) rfl rfl 127 _ hk2 ho2 offer_info ?_
  intro W3 hk3 hg3 hz3
  replace hbX := hbX.trans (below_of_grown hg3 (Nat.le_refl _) (by have := hk2.lt; omega))
  try dsimp only
  refine hK.out _ _ (hbX) (fun hHeld => ?_)
  clear hK K
  try simp only [Act.put]
  refine wpAnyH_done (by kernel_rfl) ?_ _
  have HBW : Hid (Below W.heap.size W W3) := Lib.hid (HB1.out.trans (hbX.mono HB1.out.size))
  have HK6 : Hid (Blk W3 W.heap.size 24 old) := Lib.hid (HK1.out.below hbX HK1.out.lt)
  have HR3 := Lib.hid (HR.out.below HBW.out)
  have hbZ : Below W3.heap.size W3 W3 := Below.refl _ _
  have HKO := Lib.hid hk3
  have HVDX := Lib.hid (trivial)
  clear hbX hk3 hg3 hz3 hk2 ho2 hb2 c4
  have hbX := hbZ
  clear hbZ
  have HLI : Hid (∀ W', Below W3.heap.size W3 W' → (Instr.loadAt 24 (.pointer (some ⟨W1.heap.size, 2, none⟩))).run Try.prog W' = .ok (idv (s.offers k).id) W') := Lib.hid fun W' hb => load_offid (HKO.out.below hb HKO.out.lt) HOI.out
  have HLOF : Hid (∀ W', Below W3.heap.size W3 W' → (Instr.loadAt 127 (.pointer (some ⟨W1.heap.size, 0, none⟩))).run Try.prog W' = .ok (.agg (offC (s.offers k)).toArray) W') := Lib.hid fun W' hb => load_off (HKO.out.below hb HKO.out.lt) HOI.out
  have HNI : Hid (∀ W', Below W3.heap.size W3 W' → Calls Try.prog 35 #[] W' fun e w' => e = .returned (idv nilId) ∧ Below W'.heap.size W' w') := Lib.hid fun W' _ => nil_any W'
  have HKN : Hid (∀ W', Below W3.heap.size W3 W' → Calls Try.prog 69 #[.pointer (some ⟨B, 0, none⟩), .agg (idC (s.offers k).id)] W' fun e w' => e = .returned (.bool (hasI s.known (s.offers k).id)) ∧ Below W'.heap.size W' w') := Lib.hid fun W' hb => knows_any (HR3.out.below hb) _ HOI.out
  have HT := Lib.hid ht
  clear ht
  have c0 : W3.cell? ⟨W1.heap.size, 0, none⟩ = some (.bool true) := by rw [HKO.out.cell, List.getElem?_toArray]; show some (Value.bool (s.offers k).there) = _; rw [HT.out]
  rw [hkn2] at HKN
  have HVV := Lib.hid hvv
  have HC1 : Hid (∀ W', Below W3.heap.size W3 W' → W'.cell? ⟨W1.heap.size, 1, none⟩ = some (.int .i64 vd)) := Lib.hid fun W' hb => by rw [(HKO.out.below hb HKO.out.lt).cell, List.getElem?_toArray]; show some (Value.int .i64 (s.offers k).valid) = _; rw [HVV.out]
  have c1 := HC1.out W3 (Below.refl _ _)
  clear hkn2 hvv
  have HC3b : Hid (∀ W', Below W3.heap.size W3 W' → W'.cell? ⟨B, 3, none⟩ = some (.int .i64 (k : Int))) := Lib.hid fun W' hb => by rw [(HR3.out.below hb).cell (i := 3) (by omega)]; show some (Value.int .i64 s.round) = _; rw [hk]
  have HV0 := Lib.hid hv0
  have HK12 := Lib.hid hk12
  have hl3 : s.lockR > vd := hl
  go_upto_region 8 with (first
    | (guard_target = wpList _ _ _ (Oper.mk _ (.load 24 (.tmp 27)) _ _ _ _ :: _) _ _; refine wpList_load_runS (by rfl) 24 _ rfl _ _ rfl (HLI.out _ hbX) ?_)
    | (go_at_call 69; refine (HKN.out _ hbX).mono ?_; rintro e Wn ⟨rfl, hbn⟩; replace hbX := hbX.trans (hbn.mono hbX.size); clear hbn))
  replace hbX := hbX.drew
  refine wp_region_held_drew (S := fun W' => Below W3.heap.size W3 W') (by kernel_rfl) ?_ (fun hHeld => ?_)
  · exact hbX
  refine tkH (v := ?_) 0 ⟨some 33, _, _, _, _, _⟩ rfl (Or.inl ⟨by rfl, ?_⟩) ?_
  rotate_left
  · intro w hSw; (try dsimp only at hSw); go_simp; try (with_reducible rfl)
  try simp only [Act.put, nz1, nz2, nz3]
  refine tkH (v := (.int .i64 vd)) 1 ⟨some 34, _, _, _, _, _⟩ rfl (yields_one (by rfl) 3 _ rfl ⟨W1.heap.size, 1, none⟩ rfl _ _ (fun W' hS => HC1.out W' hS) Try.underlying3 rfl) ?_
  try simp only [Act.put, nz1, nz2, nz3]
  refine tkH (v := ?_) 2 ⟨some 35, _, _, _, _, _⟩ rfl (Or.inl ⟨by rfl, ?_⟩) ?_
  rotate_left
  · intro w hSw; (try dsimp only at hSw); go_simp; try (with_reducible rfl)
  try simp only [Act.put, nz1, nz2, nz3]
  refine tkH (v := ?_) 3 ⟨some 36, _, _, _, _, _⟩ rfl (Or.inl ⟨by rfl, ?_⟩) ?_
  rotate_left
  · intro w hSw; (try dsimp only at hSw); go_simp; try (with_reducible rfl)
  try simp only [Act.put, nz1, nz2, nz3]
  refine tkH (v := ?_) 4 ⟨some 37, _, _, _, _, _⟩ rfl (Or.inl ⟨by rfl, ?_⟩) ?_
  rotate_left
  · intro w hSw; (try dsimp only at hSw); go_simp; try (with_reducible rfl)
  try simp only [Act.put, nz1, nz2, nz3]
  refine tkH (v := (.int .i64 (k : Int))) 5 ⟨some 38, _, _, _, _, _⟩ rfl (yields_one (by rfl) 3 _ rfl ⟨B, 3, none⟩ rfl _ _ (fun W' hS => HC3b.out W' hS) Try.underlying3 rfl) ?_
  try simp only [Act.put, nz1, nz2, nz3]
  refine tkH (v := ?_) 6 ⟨some 39, _, _, _, _, _⟩ rfl (Or.inl ⟨by rfl, ?_⟩) ?_
  rotate_left
  · intro w hSw; (try dsimp only at hSw); go_simp; try (with_reducible rfl)
  try simp only [Act.put, nz1, nz2, nz3]
  refine tkH (v := ?_) 7 ⟨some 32, _, _, _, _, _⟩ rfl (Or.inl ⟨by rfl, ?_⟩) ?_
  rotate_left
  · intro w hSw; (try dsimp only at hSw); go_simp; try (with_reducible rfl)
  try simp only [Act.put, nz1, nz2, nz3]
  refine wpAnyH_done (by kernel_rfl) ?_ _
  have c1u := HC1.out _ hbX
  go_upto_region 12 with (first
    | (guard_target = wpList _ _ _ (Oper.mk _ (.load 127 _) _ _ _ _ :: _) _ _; refine wpList_load_runS (by rfl) 127 _ rfl _ _ rfl (HLOF.out _ hbX) ?_)
    | (go_at_call 81; refine (HBK.out _ hbX).mono ?_; rintro e Wn ⟨rfl, hbn⟩; replace hbX := hbX.trans (hbn.mono hbX.size); clear hbn))
  replace hbX := hbX.drew
  refine wp_region_held_drew (S := fun W' => Below W3.heap.size W3 W') (by kernel_rfl) ?_ (fun hHeld => ?_)
  · exact hbX
  refine tkH (v := ?_) 0 ⟨some 53, _, _, _, _, _⟩ rfl (Or.inl ⟨by rfl, ?_⟩) ?_
  rotate_left
  · intro w hSw; (try dsimp only at hSw); go_simp; try (with_reducible rfl)
  try simp only [Act.put, nz1, nz2, nz3]
  refine tkH (v := ?_) 1 ⟨some 54, _, _, _, _, _⟩ rfl (Or.inl ⟨by rfl, ?_⟩) ?_
  rotate_left
  · intro w hSw; (try dsimp only at hSw); go_simp; try (with_reducible rfl)
  try simp only [Act.put, nz1, nz2, nz3]
  refine tkH (v := ?_) 2 ⟨some 55, _, _, _, _, _⟩ rfl (Or.inl ⟨by rfl, ?_⟩) ?_
  rotate_left
  · intro w hSw; (try dsimp only at hSw); go_simp; try (with_reducible rfl)
  try simp only [Act.put, nz1, nz2, nz3]
  refine tkH (v := ?_) 3 ⟨some 56, _, _, _, _, _⟩ rfl (Or.inl ⟨by rfl, ?_⟩) ?_
  rotate_left
  · intro w hSw; (try dsimp only at hSw); go_simp; try (with_reducible rfl)
  try simp only [Act.put, nz1, nz2, nz3]
  refine tkH (v := (.int .i64 s.lockR)) 4 ⟨some 57, _, _, _, _, _⟩ rfl (yields_one (by rfl) 3 _ rfl ⟨B, 37, none⟩ rfl _ _ (fun W' hS => (HR3.out.below hS).cell (i := 37) (by omega)) Try.underlying3 rfl) ?_
  try simp only [Act.put, nz1, nz2, nz3]
  refine tkH (v := ?_) 5 ⟨some 58, _, _, _, _, _⟩ rfl (Or.inl ⟨by rfl, ?_⟩) ?_
  rotate_left
  · intro w hSw; (try dsimp only at hSw); go_simp; try (with_reducible rfl)
  try simp only [Act.put, nz1, nz2, nz3]
  refine tkH (v := (.int .i64 vd)) 6 ⟨some 59, _, _, _, _, _⟩ rfl (yields_one (by rfl) 3 _ rfl ⟨W1.heap.size, 1, none⟩ rfl _ _ (fun W' hS => HC1.out W' hS) Try.underlying3 rfl) ?_
  try simp only [Act.put, nz1, nz2, nz3]
  refine tkH (v := (.bool true)) 7 ⟨some 60, _, _, _, _, _⟩ rfl (yields_binR (by rfl) .gtr 3 _ _ _ rfl (.int .i64 s.lockR) (.int .i64 vd) rfl rfl _ (fun w => by rfl) (fun w => int_gtr _ _ _ (by simpa using hl) w)) ?_
  try simp only [Act.put, nz1, nz2, nz3]
  refine tkH (v := ?_) 8 ⟨some 61, _, _, _, _, _⟩ rfl (Or.inl ⟨by rfl, ?_⟩) ?_
  rotate_left
  · intro w hSw; (try dsimp only at hSw); go_simp; try (with_reducible rfl)
  try simp only [Act.put, nz1, nz2, nz3]
  refine tkH (v := ?_) 9 ⟨some 62, _, _, _, _, _⟩ rfl (Or.inl ⟨by rfl, ?_⟩) ?_
  rotate_left
  · intro w hSw; (try dsimp only at hSw); go_simp; try (with_reducible rfl)
  try simp only [Act.put, nz1, nz2, nz3]
  refine tkH (v := ?_) 10 ⟨some 63, _, _, _, _, _⟩ rfl (Or.inl ⟨by rfl, ?_⟩) ?_
  rotate_left
  · intro w hSw; (try dsimp only at hSw); go_simp; try (with_reducible rfl)
  try simp only [Act.put, nz1, nz2, nz3]
  refine tkH (v := ?_) 11 ⟨some 64, _, _, _, _, _⟩ rfl (Or.inl ⟨by rfl, ?_⟩) ?_
  rotate_left
  · intro w hSw; (try dsimp only at hSw); go_simp; try (with_reducible rfl)
  try simp only [Act.put, nz1, nz2, nz3]
  refine tkH (v := ?_) 12 ⟨some 65, _, _, _, _, _⟩ rfl (Or.inl ⟨by rfl, ?_⟩) ?_
  rotate_left
  · intro w hSw; (try dsimp only at hSw); go_simp; try (with_reducible rfl)
  try simp only [Act.put, nz1, nz2, nz3]
  refine tkH (v := (idv s.lock)) 13 ⟨some 66, _, _, _, _, _⟩ rfl (yields_run (by rfl) 24 _ rfl (.pointer (some ⟨B, 38, none⟩)) _ rfl (fun W' hS => (HR3.out.below hS).loadLock)) ?_
  try simp only [Act.put, nz1, nz2, nz3]
  refine tkH (v := ?_) 14 ⟨some 67, _, _, _, _, _⟩ rfl (Or.inl ⟨by rfl, ?_⟩) ?_
  rotate_left
  · intro w hSw; (try dsimp only at hSw); go_simp; try (with_reducible rfl)
  try simp only [Act.put, nz1, nz2, nz3]
  refine tkH (v := (idv (s.offers k).id)) 15 ⟨some 68, _, _, _, _, _⟩ rfl (yields_run (by rfl) 24 _ rfl (.pointer (some ⟨W1.heap.size, 2, none⟩)) _ rfl (fun W' hS => HLI.out W' hS)) ?_
  try simp only [Act.put, nz1, nz2, nz3]
  refine tkH (v := (.bool (!(s.lock == (s.offers k).id)))) 16 ⟨some 69, _, _, _, _, _⟩ rfl (yields_neI (by rfl) _ _ rfl s.lock (s.offers k).id rfl rfl HR3.out.ok.lock HOI.out) ?_
  try simp only [Act.put, nz1, nz2, nz3]
  refine tkH (v := ?_) 17 ⟨some 70, _, _, _, _, _⟩ rfl (Or.inl ⟨by rfl, ?_⟩) ?_
  rotate_left
  · intro w hSw; (try dsimp only at hSw); go_simp; try (with_reducible rfl)
  try simp only [Act.put, nz1, nz2, nz3]
  refine tkH (v := ?_) 18 ⟨some 52, _, _, _, _, _⟩ rfl (Or.inl ⟨by rfl, ?_⟩) ?_
  rotate_left
  · intro w hSw; (try dsimp only at hSw); go_simp; try (with_reducible rfl)
  try simp only [Act.put, nz1, nz2, nz3]
  refine wpAnyH_done (by kernel_rfl) ?_ _
  go_wp2_with (first
    | (guard_target = wpList _ _ _ (Oper.mk _ (.load 24 (.tmp 20)) _ _ _ _ :: _) _ _; refine wpList_load_runS (by rfl) 24 _ rfl _ _ rfl (HLI.out _ hbX) ?_)
    | (guard_target = wpList _ _ _ (Oper.mk _ (.store 24 _ _) _ _ _ _ :: _) _ _; refine wpList_store_idv rfl _ _ rfl W.heap.size ((s.offers k).id) rfl rfl HOI.out 24 _ (HK6.out.below hbX HK6.out.lt) HO1.out ?_; intro W9 hS9 hz9 hb9 hk9))
  refine bodyPost_ret (results_cell_tmp (p := 2) (q := 3) rfl _ _ W.heap.size 24 (idC ((s.offers k).id)) _ rfl hS9 Try.underlying24 rfl (by rw [idC_size HOI.out]; exact id_info)) rfl ?_
  exact ⟨by rw [HFIN.out]; rfl, (HBW.out.trans (hbX.mono HBW.out.size)).trans hb9⟩
set_option maxRecDepth 100000 in
set_option maxHeartbeats 8000000 in
theorem choice_same_old {W : World} {B C M n : Nat} {kv : Value} {s : RdS} (h : RoundAt W B C M n kv s) (k : Nat) (hk : s.round = (k : Int)) (hk12 : k < 12) (hs : s.step = 0) (ht : (s.offers k).there = true) (hkn2 : hasI s.known (s.offers k).id = true) (vd : Int) (hvv : (s.offers k).valid = vd) (hab : ¬ (k : Int) < vd) (hv0 : 0 < vd) (hbk : backedS s (s.offers k) = true) (hl : vd < s.lockR) (hl2 : (s.lock == (s.offers k).id) = true) : Calls Try.prog 77 #[.pointer (some ⟨B, 0, none⟩)] W fun e w' => e = .returned (.tuple #[idv ((choiceS s).getD zeroId), .bool (choiceS s).isSome]) ∧ Below W.heap.size W w' := by
  have HFIN : Hid (choiceS s = some (s.offers k).id) := Lib.hid (by
    unfold choiceS
    rw [if_neg (fun e => e hs)]
    dsimp only
    rw [hk, Int.toNat_natCast]
    rw [if_neg (fun e => by rcases e with e | e <;> simp_all)]; rw [hvv]; rw [if_neg hab, if_neg (fun e => by have := e.2; rw [hbk] at this; cases this)]; rw [if_neg (fun e => e.2 (by simpa using hl2))])
  have HR := Lib.hid h
  have HOI : Hid (IdOk (s.offers k).id) := Lib.hid (h.ok.offers k hk12).1
  have HVD : Hid (0 ≤ (s.offers k).valid ∧ (s.offers k).valid ≤ (k : Int)) := Lib.hid (h.ok.offers k hk12).2
  clear h
  go_enter Try.func77, Try.ntmps77
  go_upto_region 1 with fail
  generalize hW : World.alloc _ _ = W1
  have hb1 : Below W.heap.size W W1 := by rw [← hW]; exact (Below.refl _ _).alloc (Nat.le_refl _) _
  obtain ⟨old, hk1, ho1⟩ : ∃ old, Blk W1 W.heap.size 24 old ∧ old.size = 32 := by rw [← hW]; exact ⟨_, Blk.newAt _ _ rfl rfl, rfl⟩
  have HO1 := Lib.hid ho1
  have HB1 := Lib.hid hb1
  have HK1 := Lib.hid hk1
  have c4 : W1.cell? ⟨B, 4, none⟩ = some (.int .i64 0) := by rw [(HR.out.below hb1).cell (i := 4) (by omega)]; show some (Value.int .i64 s.step) = _; rw [hs]
  have HC3 : Hid (∀ W', Below W1.heap.size W1 W' → W'.cell? ⟨B, 3, none⟩ = some (.int .i64 (k : Int))) := Lib.hid fun W' hb => by rw [(HR.out.below (hb1.trans (hb.mono hb1.size))).cell (i := 3) (by omega)]; show some (Value.int .i64 s.round) = _; rw [hk]
  have HLO : Hid (∀ W', Below W1.heap.size W1 W' → (Instr.loadAt 127 (.pointer (some ⟨B, 104 + k * 34, none⟩))).run Try.prog W' = .ok (.agg (offC (s.offers k)).toArray) W') := Lib.hid fun W' hb => load_offer (HR.out.below (hb1.trans (hb.mono hb1.size))) hk12
  have hkn : (k : Int) < 12 := by omega
  clear hb1 hk1 ho1 hW
  go_upto_region 3 with fail
  have hbX : Below W1.heap.size W1 W1.drew := (Below.refl _ W1).drew
  refine wp_region_held_drew (S := fun W' => Below W1.heap.size W1 W') (by kernel_rfl) ?_ (fun hHeld => ?_)
  · exact hbX
  refine tkH (v := ?_) 0 ⟨some 11, _, _, _, _, _⟩ rfl (Or.inl ⟨by rfl, ?_⟩) ?_
  rotate_left
  · intro w hSw; (try dsimp only at hSw); go_simp; try (with_reducible rfl)
  try simp only [Act.put, nz1, nz2, nz3]
  refine tkH (v := ?_) 1 ⟨some 12, _, _, _, _, _⟩ rfl (Or.inl ⟨by rfl, ?_⟩) ?_
  rotate_left
  · intro w hSw; (try dsimp only at hSw); go_simp; try (with_reducible rfl)
  try simp only [Act.put, nz1, nz2, nz3]
  refine tkH (v := ?_) 2 ⟨some 13, _, _, _, _, _⟩ rfl (Or.inl ⟨by rfl, ?_⟩) ?_
  rotate_left
  · intro w hSw; (try dsimp only at hSw); go_simp; try (with_reducible rfl)
  try simp only [Act.put, nz1, nz2, nz3]
  refine tkH (v := ?_) 3 ⟨some 14, _, _, _, _, _⟩ rfl (Or.inl ⟨by rfl, ?_⟩) ?_
  rotate_left
  · intro w hSw; (try dsimp only at hSw); go_simp; try (with_reducible rfl)
  try simp only [Act.put, nz1, nz2, nz3]
  refine tkH (v := (.int .i64 (k : Int))) 4 ⟨some 15, _, _, _, _, _⟩ rfl (yields_one (by rfl) 3 _ rfl ⟨B, 3, none⟩ rfl _ _ (fun W' hS => HC3.out W' hS) Try.underlying3 rfl) ?_
  try simp only [Act.put, nz1, nz2, nz3]
  refine tkH (v := ?_) 5 ⟨some 16, _, _, _, _, _⟩ rfl (Or.inl ⟨by rfl, ?_⟩) ?_
  rotate_left
  · intro w hSw; (try dsimp only at hSw); go_simp; try (with_reducible rfl)
  try simp only [Act.put, nz1, nz2, nz3]
  refine tkH (v := ?_) 6 ⟨some 17, _, _, _, _, _⟩ rfl (Or.inl ⟨by rfl, ?_⟩) ?_
  rotate_left
  · intro w hSw; (try dsimp only at hSw); go_simp; try (with_reducible rfl)
  try simp only [Act.put, nz1, nz2, nz3]
  refine tkH (v := ?_) 7 ⟨some 18, _, _, _, _, _⟩ rfl (Or.inl ⟨by rfl, ?_⟩) ?_
  rotate_left
  · intro w hSw; (try dsimp only at hSw); go_simp; try (with_reducible rfl)
  try simp only [Act.put, nz1, nz2, nz3]
  refine tkH (v := (.agg (offC (s.offers k)).toArray)) 8 ⟨some 19, _, _, _, _, _⟩ rfl (yields_run (by rfl) 127 _ rfl (.pointer (some ⟨B, 104 + k * 34, none⟩)) _ rfl (fun W' hS => HLO.out W' hS)) ?_
  try simp only [Act.put, nz1, nz2, nz3]
  refine wpAnyH_ready (rs := [9]) (by kernel_rfl) (by simp) ?_
  refine (AllReadyH.cons (o := ⟨some 4, _, _, _, _, _⟩) rfl (fun K hK => ?_) AllReadyH.nil)
  (try rw [if_pos (by rfl)])
  go_simp
  generalize hW2 : World.alloc _ _ = W2
  have hb2 : Below W1.heap.size W1 W2 := by rw [← hW2]; exact (Below.refl _ W1).alloc (Nat.le_refl _) _
  obtain ⟨old2, hk2', ho2⟩ : ∃ old2, Blk W2 W1.heap.size 127 old2 ∧ old2.size = 34 := by rw [← hW2]; exact ⟨_, Blk.newAt _ _ rfl rfl, rfl⟩
  have hk2 := hk2'.drew
  replace hbX := hb2.drew
  clear hW2 hk2'
  try dsimp only
  refine hK.out _ _ (hbX) (fun hHeld => ?_)
  clear hK K
  try simp only [Act.put, nz1, nz2, nz3]
  refine wpAnyH_ready (rs := [10]) (by kernel_rfl) (by simp) ?_
  refine (AllReadyH.cons (o := ⟨none, _, _, _, _, _⟩) rfl (fun K hK => ?_) AllReadyH.nil)
  (try rw [if_pos (by rfl)])
  refine oper_store_own 127 34 _ _ rfl W1.heap.size (offC (s.offers k)) (offC_length HOI.out) (offC_one _) rfl rfl 127 _ hk2 ho2 offer_info ?_
  intro W3 hk3 hg3 hz3
  replace hbX := hbX.trans (below_of_grown hg3 (Nat.le_refl _) (by have := hk2.lt; omega))
  try dsimp only
  refine hK.out _ _ (hbX) (fun hHeld => ?_)
  clear hK K
  try simp only [Act.put]
  refine wpAnyH_done (by kernel_rfl) ?_ _
  have HBW : Hid (Below W.heap.size W W3) := Lib.hid (HB1.out.trans (hbX.mono HB1.out.size))
  have HK6 : Hid (Blk W3 W.heap.size 24 old) := Lib.hid (HK1.out.below hbX HK1.out.lt)
  have HR3 := Lib.hid (HR.out.below HBW.out)
  have hbZ : Below W3.heap.size W3 W3 := Below.refl _ _
  have HKO := Lib.hid hk3
  have HVDX := Lib.hid (trivial)
  clear hbX hk3 hg3 hz3 hk2 ho2 hb2 c4
  have hbX := hbZ
  clear hbZ
  have HLI : Hid (∀ W', Below W3.heap.size W3 W' → (Instr.loadAt 24 (.pointer (some ⟨W1.heap.size, 2, none⟩))).run Try.prog W' = .ok (idv (s.offers k).id) W') := Lib.hid fun W' hb => load_offid (HKO.out.below hb HKO.out.lt) HOI.out
  have HLOF : Hid (∀ W', Below W3.heap.size W3 W' → (Instr.loadAt 127 (.pointer (some ⟨W1.heap.size, 0, none⟩))).run Try.prog W' = .ok (.agg (offC (s.offers k)).toArray) W') := Lib.hid fun W' hb => load_off (HKO.out.below hb HKO.out.lt) HOI.out
  have HNI : Hid (∀ W', Below W3.heap.size W3 W' → Calls Try.prog 35 #[] W' fun e w' => e = .returned (idv nilId) ∧ Below W'.heap.size W' w') := Lib.hid fun W' _ => nil_any W'
  have HKN : Hid (∀ W', Below W3.heap.size W3 W' → Calls Try.prog 69 #[.pointer (some ⟨B, 0, none⟩), .agg (idC (s.offers k).id)] W' fun e w' => e = .returned (.bool (hasI s.known (s.offers k).id)) ∧ Below W'.heap.size W' w') := Lib.hid fun W' hb => knows_any (HR3.out.below hb) _ HOI.out
  have HT := Lib.hid ht
  clear ht
  have c0 : W3.cell? ⟨W1.heap.size, 0, none⟩ = some (.bool true) := by rw [HKO.out.cell, List.getElem?_toArray]; show some (Value.bool (s.offers k).there) = _; rw [HT.out]
  rw [hkn2] at HKN
  have HVV := Lib.hid hvv
  have HC1 : Hid (∀ W', Below W3.heap.size W3 W' → W'.cell? ⟨W1.heap.size, 1, none⟩ = some (.int .i64 vd)) := Lib.hid fun W' hb => by rw [(HKO.out.below hb HKO.out.lt).cell, List.getElem?_toArray]; show some (Value.int .i64 (s.offers k).valid) = _; rw [HVV.out]
  have c1 := HC1.out W3 (Below.refl _ _)
  clear hkn2 hvv
  have HC3b : Hid (∀ W', Below W3.heap.size W3 W' → W'.cell? ⟨B, 3, none⟩ = some (.int .i64 (k : Int))) := Lib.hid fun W' hb => by rw [(HR3.out.below hb).cell (i := 3) (by omega)]; show some (Value.int .i64 s.round) = _; rw [hk]
  have HV0 := Lib.hid hv0
  have HK12 := Lib.hid hk12
  have HBK : Hid (∀ W', Below W3.heap.size W3 W' → Calls Try.prog 81 #[.pointer (some ⟨B, 0, none⟩), .agg (offC (s.offers k)).toArray] W' fun e w' => e = .returned (.bool (backedS s (s.offers k))) ∧ Below W'.heap.size W' w') := Lib.hid fun W' hb => backed_any (HR3.out.below hb) _ HOI.out ⟨by rw [HVV.out]; exact HV0.out, by have := HVD.out; have := HK12.out; omega⟩
  rw [hbk] at HBK
  clear hbk
  have hl3 : s.lockR > vd := hl
  go_upto_region 8 with (first
    | (guard_target = wpList _ _ _ (Oper.mk _ (.load 24 (.tmp 27)) _ _ _ _ :: _) _ _; refine wpList_load_runS (by rfl) 24 _ rfl _ _ rfl (HLI.out _ hbX) ?_)
    | (go_at_call 69; refine (HKN.out _ hbX).mono ?_; rintro e Wn ⟨rfl, hbn⟩; replace hbX := hbX.trans (hbn.mono hbX.size); clear hbn))
  replace hbX := hbX.drew
  refine wp_region_held_drew (S := fun W' => Below W3.heap.size W3 W') (by kernel_rfl) ?_ (fun hHeld => ?_)
  · exact hbX
  refine tkH (v := ?_) 0 ⟨some 33, _, _, _, _, _⟩ rfl (Or.inl ⟨by rfl, ?_⟩) ?_
  rotate_left
  · intro w hSw; (try dsimp only at hSw); go_simp; try (with_reducible rfl)
  try simp only [Act.put, nz1, nz2, nz3]
  refine tkH (v := (.int .i64 vd)) 1 ⟨some 34, _, _, _, _, _⟩ rfl (yields_one (by rfl) 3 _ rfl ⟨W1.heap.size, 1, none⟩ rfl _ _ (fun W' hS => HC1.out W' hS) Try.underlying3 rfl) ?_
  try simp only [Act.put, nz1, nz2, nz3]
  refine tkH (v := ?_) 2 ⟨some 35, _, _, _, _, _⟩ rfl (Or.inl ⟨by rfl, ?_⟩) ?_
  rotate_left
  · intro w hSw; (try dsimp only at hSw); go_simp; try (with_reducible rfl)
  try simp only [Act.put, nz1, nz2, nz3]
  refine tkH (v := ?_) 3 ⟨some 36, _, _, _, _, _⟩ rfl (Or.inl ⟨by rfl, ?_⟩) ?_
  rotate_left
  · intro w hSw; (try dsimp only at hSw); go_simp; try (with_reducible rfl)
  try simp only [Act.put, nz1, nz2, nz3]
  refine tkH (v := ?_) 4 ⟨some 37, _, _, _, _, _⟩ rfl (Or.inl ⟨by rfl, ?_⟩) ?_
  rotate_left
  · intro w hSw; (try dsimp only at hSw); go_simp; try (with_reducible rfl)
  try simp only [Act.put, nz1, nz2, nz3]
  refine tkH (v := (.int .i64 (k : Int))) 5 ⟨some 38, _, _, _, _, _⟩ rfl (yields_one (by rfl) 3 _ rfl ⟨B, 3, none⟩ rfl _ _ (fun W' hS => HC3b.out W' hS) Try.underlying3 rfl) ?_
  try simp only [Act.put, nz1, nz2, nz3]
  refine tkH (v := ?_) 6 ⟨some 39, _, _, _, _, _⟩ rfl (Or.inl ⟨by rfl, ?_⟩) ?_
  rotate_left
  · intro w hSw; (try dsimp only at hSw); go_simp; try (with_reducible rfl)
  try simp only [Act.put, nz1, nz2, nz3]
  refine tkH (v := ?_) 7 ⟨some 32, _, _, _, _, _⟩ rfl (Or.inl ⟨by rfl, ?_⟩) ?_
  rotate_left
  · intro w hSw; (try dsimp only at hSw); go_simp; try (with_reducible rfl)
  try simp only [Act.put, nz1, nz2, nz3]
  refine wpAnyH_done (by kernel_rfl) ?_ _
  have c1u := HC1.out _ hbX
  go_upto_region 12 with (first
    | (guard_target = wpList _ _ _ (Oper.mk _ (.load 127 _) _ _ _ _ :: _) _ _; refine wpList_load_runS (by rfl) 127 _ rfl _ _ rfl (HLOF.out _ hbX) ?_)
    | (go_at_call 81; refine (HBK.out _ hbX).mono ?_; rintro e Wn ⟨rfl, hbn⟩; replace hbX := hbX.trans (hbn.mono hbX.size); clear hbn))
  replace hbX := hbX.drew
  refine wp_region_held_drew (S := fun W' => Below W3.heap.size W3 W') (by kernel_rfl) ?_ (fun hHeld => ?_)
  · exact hbX
  refine tkH (v := ?_) 0 ⟨some 53, _, _, _, _, _⟩ rfl (Or.inl ⟨by rfl, ?_⟩) ?_
  rotate_left
  · intro w hSw; (try dsimp only at hSw); go_simp; try (with_reducible rfl)
  try simp only [Act.put, nz1, nz2, nz3]
  refine tkH (v := ?_) 1 ⟨some 54, _, _, _, _, _⟩ rfl (Or.inl ⟨by rfl, ?_⟩) ?_
  rotate_left
  · intro w hSw; (try dsimp only at hSw); go_simp; try (with_reducible rfl)
  try simp only [Act.put, nz1, nz2, nz3]
  refine tkH (v := ?_) 2 ⟨some 55, _, _, _, _, _⟩ rfl (Or.inl ⟨by rfl, ?_⟩) ?_
  rotate_left
  · intro w hSw; (try dsimp only at hSw); go_simp; try (with_reducible rfl)
  try simp only [Act.put, nz1, nz2, nz3]
  refine tkH (v := ?_) 3 ⟨some 56, _, _, _, _, _⟩ rfl (Or.inl ⟨by rfl, ?_⟩) ?_
  rotate_left
  · intro w hSw; (try dsimp only at hSw); go_simp; try (with_reducible rfl)
  try simp only [Act.put, nz1, nz2, nz3]
  refine tkH (v := (.int .i64 s.lockR)) 4 ⟨some 57, _, _, _, _, _⟩ rfl (yields_one (by rfl) 3 _ rfl ⟨B, 37, none⟩ rfl _ _ (fun W' hS => (HR3.out.below hS).cell (i := 37) (by omega)) Try.underlying3 rfl) ?_
  try simp only [Act.put, nz1, nz2, nz3]
  refine tkH (v := ?_) 5 ⟨some 58, _, _, _, _, _⟩ rfl (Or.inl ⟨by rfl, ?_⟩) ?_
  rotate_left
  · intro w hSw; (try dsimp only at hSw); go_simp; try (with_reducible rfl)
  try simp only [Act.put, nz1, nz2, nz3]
  refine tkH (v := (.int .i64 vd)) 6 ⟨some 59, _, _, _, _, _⟩ rfl (yields_one (by rfl) 3 _ rfl ⟨W1.heap.size, 1, none⟩ rfl _ _ (fun W' hS => HC1.out W' hS) Try.underlying3 rfl) ?_
  try simp only [Act.put, nz1, nz2, nz3]
  refine tkH (v := (.bool true)) 7 ⟨some 60, _, _, _, _, _⟩ rfl (yields_binR (by rfl) .gtr 3 _ _ _ rfl (.int .i64 s.lockR) (.int .i64 vd) rfl rfl _ (fun w => by rfl) (fun w => int_gtr _ _ _ (by simpa using hl) w)) ?_
  try simp only [Act.put, nz1, nz2, nz3]
  refine tkH (v := ?_) 8 ⟨some 61, _, _, _, _, _⟩ rfl (Or.inl ⟨by rfl, ?_⟩) ?_
  rotate_left
  · intro w hSw; (try dsimp only at hSw); go_simp; try (with_reducible rfl)
  try simp only [Act.put, nz1, nz2, nz3]
  refine tkH (v := ?_) 9 ⟨some 62, _, _, _, _, _⟩ rfl (Or.inl ⟨by rfl, ?_⟩) ?_
  rotate_left
  · intro w hSw; (try dsimp only at hSw); go_simp; try (with_reducible rfl)
  try simp only [Act.put, nz1, nz2, nz3]
  refine tkH (v := ?_) 10 ⟨some 63, _, _, _, _, _⟩ rfl (Or.inl ⟨by rfl, ?_⟩) ?_
  rotate_left
  · intro w hSw; (try dsimp only at hSw); go_simp; try (with_reducible rfl)
  try simp only [Act.put, nz1, nz2, nz3]
  refine tkH (v := ?_) 11 ⟨some 64, _, _, _, _, _⟩ rfl (Or.inl ⟨by rfl, ?_⟩) ?_
  rotate_left
  · intro w hSw; (try dsimp only at hSw); go_simp; try (with_reducible rfl)
  try simp only [Act.put, nz1, nz2, nz3]
  refine tkH (v := ?_) 12 ⟨some 65, _, _, _, _, _⟩ rfl (Or.inl ⟨by rfl, ?_⟩) ?_
  rotate_left
  · intro w hSw; (try dsimp only at hSw); go_simp; try (with_reducible rfl)
  try simp only [Act.put, nz1, nz2, nz3]
  refine tkH (v := (idv s.lock)) 13 ⟨some 66, _, _, _, _, _⟩ rfl (yields_run (by rfl) 24 _ rfl (.pointer (some ⟨B, 38, none⟩)) _ rfl (fun W' hS => (HR3.out.below hS).loadLock)) ?_
  try simp only [Act.put, nz1, nz2, nz3]
  refine tkH (v := ?_) 14 ⟨some 67, _, _, _, _, _⟩ rfl (Or.inl ⟨by rfl, ?_⟩) ?_
  rotate_left
  · intro w hSw; (try dsimp only at hSw); go_simp; try (with_reducible rfl)
  try simp only [Act.put, nz1, nz2, nz3]
  refine tkH (v := (idv (s.offers k).id)) 15 ⟨some 68, _, _, _, _, _⟩ rfl (yields_run (by rfl) 24 _ rfl (.pointer (some ⟨W1.heap.size, 2, none⟩)) _ rfl (fun W' hS => HLI.out W' hS)) ?_
  try simp only [Act.put, nz1, nz2, nz3]
  refine tkH (v := (.bool (!(s.lock == (s.offers k).id)))) 16 ⟨some 69, _, _, _, _, _⟩ rfl (yields_neI (by rfl) _ _ rfl s.lock (s.offers k).id rfl rfl HR3.out.ok.lock HOI.out) ?_
  try simp only [Act.put, nz1, nz2, nz3]
  refine tkH (v := ?_) 17 ⟨some 70, _, _, _, _, _⟩ rfl (Or.inl ⟨by rfl, ?_⟩) ?_
  rotate_left
  · intro w hSw; (try dsimp only at hSw); go_simp; try (with_reducible rfl)
  try simp only [Act.put, nz1, nz2, nz3]
  refine tkH (v := ?_) 18 ⟨some 52, _, _, _, _, _⟩ rfl (Or.inl ⟨by rfl, ?_⟩) ?_
  rotate_left
  · intro w hSw; (try dsimp only at hSw); go_simp; try (with_reducible rfl)
  try simp only [Act.put, nz1, nz2, nz3]
  refine wpAnyH_done (by kernel_rfl) ?_ _
  go_wp2_with (first
    | (guard_target = wpList _ _ _ (Oper.mk _ (.load 24 (.tmp 20)) _ _ _ _ :: _) _ _; refine wpList_load_runS (by rfl) 24 _ rfl _ _ rfl (HLI.out _ hbX) ?_)
    | (guard_target = wpList _ _ _ (Oper.mk _ (.store 24 _ _) _ _ _ _ :: _) _ _; refine wpList_store_idv rfl _ _ rfl W.heap.size ((s.offers k).id) rfl rfl HOI.out 24 _ (HK6.out.below hbX HK6.out.lt) HO1.out ?_; intro W9 hS9 hz9 hb9 hk9))
  refine bodyPost_ret (results_cell_tmp (p := 2) (q := 3) rfl _ _ W.heap.size 24 (idC ((s.offers k).id)) _ rfl hS9 Try.underlying24 rfl (by rw [idC_size HOI.out]; exact id_info)) rfl ?_
  exact ⟨by rw [HFIN.out]; rfl, (HBW.out.trans (hbX.mono HBW.out.size)).trans hb9⟩
theorem choice_any {W : World} {B C M n : Nat} {kv : Value} {s : RdS} (h : RoundAt W B C M n kv s) : Calls Try.prog 77 #[.pointer (some ⟨B, 0, none⟩)] W fun e w' => e = .returned (.tuple #[idv ((choiceS s).getD zeroId), .bool (choiceS s).isSome]) ∧ Below W.heap.size W w' := by
  by_cases hs : s.step = 0
  · have hr := h.ok.round
    have he := h.ok.early
    have hne : s.round ≠ -1 := fun e => by have := he e; omega
    obtain ⟨k, hk⟩ : ∃ k : Nat, s.round = (k : Int) := ⟨s.round.toNat, by omega⟩
    have hk12 : k < 12 := by omega
    cases ht : (s.offers k).there with
    | false => exact choice_none h k hk hk12 hs ht
    | true =>
      cases hkn : hasI s.known (s.offers k).id with
      | false => exact choice_unknown h k hk hk12 hs ht hkn
      | true =>
        by_cases hab : (k : Int) < (s.offers k).valid
        · exact choice_above h k hk hk12 hs ht hkn _ rfl hab
        by_cases hv0 : 0 < (s.offers k).valid
        · cases hbk : backedS s (s.offers k) with
          | false => exact choice_unbacked h k hk hk12 hs ht hkn _ rfl hab hv0 hbk
          | true =>
            by_cases hl : (s.offers k).valid < s.lockR
            · cases hl2 : s.lock == (s.offers k).id with
              | false => exact choice_held_old h k hk hk12 hs ht hkn _ rfl hab hv0 hbk hl hl2
              | true => exact choice_same_old h k hk hk12 hs ht hkn _ rfl hab hv0 hbk hl hl2
            · exact choice_free_old h k hk hk12 hs ht hkn _ rfl hab hv0 hbk hl
        · by_cases hl : (s.offers k).valid < s.lockR
          · cases hl2 : s.lock == (s.offers k).id with
            | false => exact choice_held_zero h k hk hk12 hs ht hkn _ rfl hab hv0 hl hl2
            | true => exact choice_same_zero h k hk hk12 hs ht hkn _ rfl hab hv0 hl hl2
          · exact choice_free_zero h k hk hk12 hs ht hkn _ rfl hab hv0 hl
  · exact choice_step_no h hs
end Go.Proofs.Ytbgojlcciealiaa
