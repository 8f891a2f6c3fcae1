/-
  One's way to agreement: what is done next. No condition.
-/
import Derived.Test.YtbgojlcciealiaaRndWait
namespace Go.Proofs.Ytbgojlcciealiaa
open Go Go.RowKit Go.Maps

set_option maxRecDepth 100000 in
theorem act_fill4 (r : Int) (g : Nat → UInt8) : Try.prog.built 71 [(0, .int .i64 4), (1, .int .i64 r), (4, .agg (idC ((List.range 32).map g)))] = some (actA ⟨4, r, 0, 0, (List.range 32).map g⟩) := by kernel_rfl
theorem act_built4 (r : Int) (id : List UInt8) (h : IdOk id) : Try.prog.built 71 [(0, .int .i64 4), (1, .int .i64 r), (4, idv id)] = some (actA ⟨4, r, 0, 0, id⟩) := by
  rw [id_range h]
  exact act_fill4 r _
theorem int_neq (a b : Int) (v : Bool) (h : decide (a = b) = !v) (w : World) : (binOp .neq 3 (.int .i64 a) (.int .i64 b)).run Try.prog w = .ok (.bool v) w := by
  have hb : (a == b) = !v := by
    rw [← h]
    cases hd : decide (a = b) with
    | true => simpa using hd
    | false => rw [beq_eq_false_iff_ne]; simpa using hd
  go_simp
  rw [show (a != b) = !(a == b) from rfl, hb, Bool.not_not]
theorem choice_idOk {W : World} {B C M n : Nat} {kv : Value} {s : RdS} (h : RoundAt W B C M n kv s) {id : List UInt8} (hr : 0 ≤ s.round) (hc : choiceS s = some id) : IdOk id := by
  unfold choiceS at hc
  have hr2 := h.ok.round.2
  have ho := h.ok.offers s.round.toNat (by omega)
  split at hc
  · cases hc
  dsimp only at hc
  split at hc
  · cases hc
  split at hc
  · injection hc with hc
    subst hc
    exact nilId_ok
  split at hc
  · cases hc
  split at hc
  · injection hc with hc
    subst hc
    exact nilId_ok
  · injection hc with hc
    subst hc
    exact ho.1
theorem agreed_in {W : World} {B C M n : Nat} {kv : Value} {s : RdS} (h : RoundAt W B C M n kv s) {j : Nat} {id : List UInt8} (hag : agreedS s = some (j, id)) : j < 12 ∧ IdOk id := by
  unfold agreedS at hag
  obtain ⟨i, hi, he⟩ := List.exists_of_findSome?_eq_some hag
  rw [Option.map_eq_some_iff] at he
  obtain ⟨x, hx, he⟩ := he
  injection he with e1 e2
  subst e1 e2
  exact ⟨List.mem_range.1 hi, (sureS_ok h hx).1⟩
set_option maxRecDepth 100000 in
set_option maxHeartbeats 8000000 in
theorem next_done {W : World} {B C M n : Nat} {kv : Value} {s : RdS} (h : RoundAt W B C M n kv s) (hr : 0 ≤ s.round) (hn : n < maxLen) (j : Nat) (id : List UInt8) (hag : agreedS s = some (j, id)) : Calls Try.prog 70 #[.pointer (some ⟨B, 0, none⟩)] W fun e w' => (∃ v, e = .returned (.tuple #[v, .bool (nextS s).isSome]) ∧ OwnA W.heap.size w' v (((nextS s).map (·.2)).getD [])) ∧ RoundAt w' B C M (n + 1) kv (((nextS s).map (·.1)).getD s) ∧ Chg W w' B M kv kv := by
  have HFIN : Hid (nextS s = some (overS s, [⟨4, (j : Int), 0, 0, id⟩])) := Lib.hid (by unfold nextS; rw [hag])
  have hR := h
  have hC := Chg.refl W B M kv
  have HN := Lib.hid hn
  have HR0 := Lib.hid hr
  have HWR : Hid (wfi s.round) := Lib.hid (wfi_small (by omega) (by have := h.ok.round; omega))
  have HOK := Lib.hid h.ok
  have HJ : Hid (j < 12 ∧ IdOk id) := Lib.hid (by have := agreed_in h hag; exact this)
  have HAG : Hid (∀ W', RoundAt W' B C M n kv s → Calls Try.prog 76 #[.pointer (some ⟨B, 0, none⟩)] W' fun e w' => e = .returned (.tuple #[.int .i64 (j : Int), idv id, .bool true]) ∧ Below W'.heap.size W' w') := Lib.hid fun W' hR => by have := agreed_any hR; rwa [hag] at this
  clear hag
  clear h hn hr
  go_enter Try.func70, Try.ntmps70
  go_upto_region 3 with (first
    | (go_at_call 76; refine (HAG.out _ hR).mono ?_; rintro e Wn ⟨rfl, hbn⟩; have HBN0 : B < Wn.heap.size := (hR.below hbn).lt; replace hR := hR.below hbn; replace hC := hC.trans (Chg.ofBelow hbn); clear hbn)
    | (guard_target = wpList _ _ _ (Oper.mk _ (.store 24 _ _) _ _ _ _ :: _) _ _; refine wpList_store_idv rfl _ _ rfl Wn.heap.size (id) rfl rfl HJ.out.2 24 _ (Blk.newAt _ _ rfl rfl) rfl ?_; intro W3 hS3 hz3 hb3 hk3; have hbn := (((Below.refl _ Wn).alloc (Nat.le_refl _) _).trans hb3); clear hb3 hk3 hz3; replace hR := hR.below hbn; replace hC := hC.trans (Chg.ofBelow hbn); clear hbn))
  have HBN : Hid (B ≠ Wn.heap.size) := Lib.hid (by have := HBN0; omega)
  have f4 : W3.frozen? ⟨B, 4, none⟩ = false := hR.blk.frozen 4
  have c4 : W3.cell? ⟨B, 4, none⟩ = some (.int .i64 s.step) := hR.cell (i := 4) (by omega)
  go_upto_region 4 with fail
  generalize hW4 : World.setCell W3 _ _ = W4
  have hg4 : W3.grownBy W4 (some B) := by rw [← hW4]; exact grown_cell _ _ _ _
  replace hR : RoundAt W4 B C M n kv (overS s) := by rw [← hW4]; exact hR.setStep (over_ok HOK.out)
  replace hC := hC.trans (Chg.ofB hg4)
  have HLI : Hid ((Instr.loadAt 24 (.pointer (some ⟨Wn.heap.size, 0, none⟩))).run Try.prog W4 = .ok (idv id) W4) := Lib.hid (run_loadVar_idv HJ.out.2 (hS3.grown hg4 fun e => HBN.out (Option.some.inj e).symm))
  have HACT : Hid (ActOk ⟨4, (j : Int), 0, 0, id⟩) := Lib.hid (actOk_mk HJ.out.2 (by omega) (by have := HJ.out.1; omega) (by omega) (by omega))
  clear hW4 f4 c4 hS3 hg4
  refine wp_region_list ?_
  refine wpList_yields (S := fun W' => W' = W4) (rfl) (v := ?_) (Or.inl ⟨by rfl, ?_⟩) (by rfl) ?_
  rotate_left
  · intro w hSw; (try dsimp only at hSw); go_simp; try (with_reducible rfl)
  try simp only [Act.put, nz1, nz2, nz3]
  refine wpList_yields (S := fun W' => W' = W4) (rfl) (v := (idv id)) (yields_run (by rfl) 24 _ rfl (.pointer (some ⟨Wn.heap.size, 0, none⟩)) _ rfl (fun W' hS => by rw [hS]; exact HLI.out)) (by rfl) ?_
  try simp only [Act.put, nz1, nz2, nz3]
  refine wpList_yields (S := fun W' => W' = W4) (rfl) (v := (.agg (actA ⟨4, (j : Int), 0, 0, id⟩))) (yields_build (by rfl) 71 _ rfl [(0, .int .i64 4), (1, .int .i64 (j : Int)), (4, idv id)] rfl _ (act_built4 _ _ HJ.out.2)) (by rfl) ?_
  try simp only [Act.put, nz1, nz2, nz3]
  refine wpList_build_actL rfl _ rfl ⟨4, (j : Int), 0, 0, id⟩ HACT.out rfl ?_
  go_wp2_with fail
  go_ret2
  exact ⟨⟨_, by rw [HFIN.out]; rfl, by rw [HFIN.out]; exact actsR_one HACT.out hC.size⟩, by rw [HFIN.out]; exact (hR.below ((Below.refl _ W4).alloc (Nat.le_refl _) _)).mono (Nat.le_succ n), hC.trans (Chg.ofBelow ((Below.refl _ W4).alloc (Nat.le_refl _) _))⟩
set_option maxRecDepth 100000 in
set_option maxHeartbeats 8000000 in
theorem next_ahead {W : World} {B C M n : Nat} {kv : Value} {s : RdS} (h : RoundAt W B C M n kv s) (hr : 0 ≤ s.round) (hn : n < maxLen) (hag : agreedS s = none) (mm : Nat) (hah : aheadO s.voters s.votes s.round = some mm) : Calls Try.prog 70 #[.pointer (some ⟨B, 0, none⟩)] W fun e w' => (∃ v, e = .returned (.tuple #[v, .bool (nextS s).isSome]) ∧ OwnA W.heap.size w' v (((nextS s).map (·.2)).getD [])) ∧ RoundAt w' B C M (n + 1) kv (((nextS s).map (·.1)).getD s) ∧ Chg W w' B M kv kv := by
  have HFIN : Hid (nextS s = some (beginS s (mm : Int), beginA s (mm : Int))) := Lib.hid (by unfold nextS; rw [hag, hah])
  have hR := h
  have hC := Chg.refl W B M kv
  have HN := Lib.hid hn
  have HR0 := Lib.hid hr
  have HWR : Hid (wfi s.round) := Lib.hid (wfi_small (by omega) (by have := h.ok.round; omega))
  have HOK := Lib.hid h.ok
  have HM := Lib.hid (ahead_in hah).1
  have HAG : Hid (∀ W', RoundAt W' B C M n kv s → Calls Try.prog 76 #[.pointer (some ⟨B, 0, none⟩)] W' fun e w' => e = .returned (.tuple #[.int .i64 0, idv zeroId, .bool false]) ∧ Below W'.heap.size W' w') := Lib.hid fun W' hR => by have := agreed_any hR; rwa [hag] at this
  have HAH : Hid (∀ W', RoundAt W' B C M n kv s → Calls Try.prog 28 #[.pointer (some ⟨C, 0, none⟩), .int .i64 s.round] W' fun e w' => e = .returned (.tuple #[.int .i64 (mm : Int), .bool true]) ∧ Below W'.heap.size W' w') := Lib.hid fun W' hR => by have := ahead_any hR.cnt s.round HWR.out HOK.out.voters.2.1 HOK.out.voters.2.2; rwa [hah] at this
  clear hag hah
  clear h hn hr
  go_enter Try.func70, Try.ntmps70
  go_upto_region 5 with (first
    | (go_at_call 76; refine (HAG.out _ hR).mono ?_; rintro e Wn ⟨rfl, hbn⟩; replace hR := hR.below hbn; replace hC := hC.trans (Chg.ofBelow hbn); clear hbn)
    | (guard_target = wpList _ _ _ (Oper.mk _ (.store 24 _ _) _ _ _ _ :: _) _ _; refine wpList_store_idv rfl _ _ rfl Wn.heap.size (zeroId) rfl rfl zeroId_ok 24 _ (Blk.newAt _ _ rfl rfl) rfl ?_; intro W3 hS3 hz3 hb3 hk3; have hbn := (((Below.refl _ Wn).alloc (Nat.le_refl _) _).trans hb3); clear hb3 hk3 hz3; replace hR := hR.below hbn; replace hC := hC.trans (Chg.ofBelow hbn); clear hbn; clear hS3))
  replace hR := hR.drew
  replace hC := hC.trans (Chg.ofBelow (Below.refl _ _).drew)
  refine wp_region_held_drew (S := fun W' => RoundAt W' B C M n kv s) (by kernel_rfl) ?_ (fun hHeld => ?_)
  · exact hR
  refine tkH (v := ?_) 0 ⟨some 28, _, _, _, _, _⟩ rfl (Or.inl ⟨by rfl, ?_⟩) ?_
  rotate_left
  · intro w hSw; (try dsimp only at hSw); go_simp; try (with_reducible rfl)
  try simp only [Act.put, nz1, nz2, nz3]
  refine tkH (v := ?_) 1 ⟨some 29, _, _, _, _, _⟩ rfl (Or.inl ⟨by rfl, ?_⟩) ?_
  rotate_left
  · intro w hSw; (try dsimp only at hSw); go_simp; try (with_reducible rfl)
  try simp only [Act.put, nz1, nz2, nz3]
  refine tkH (v := ?_) 2 ⟨some 30, _, _, _, _, _⟩ rfl (Or.inl ⟨by rfl, ?_⟩) ?_
  rotate_left
  · intro w hSw; (try dsimp only at hSw); go_simp; try (with_reducible rfl)
  try simp only [Act.put, nz1, nz2, nz3]
  refine tkH (v := (.pointer (some ⟨C, 0, none⟩))) 3 ⟨some 31, _, _, _, _, _⟩ rfl (yields_one (by rfl) 28 _ rfl ⟨B, 548, none⟩ rfl _ _ (fun W' hS => hS.cell (i := 548) (by omega)) Try.underlying28 rfl) ?_
  try simp only [Act.put, nz1, nz2, nz3]
  refine tkH (v := ?_) 4 ⟨some 32, _, _, _, _, _⟩ rfl (Or.inl ⟨by rfl, ?_⟩) ?_
  rotate_left
  · intro w hSw; (try dsimp only at hSw); go_simp; try (with_reducible rfl)
  try simp only [Act.put, nz1, nz2, nz3]
  refine tkH (v := ?_) 5 ⟨some 33, _, _, _, _, _⟩ rfl (Or.inl ⟨by rfl, ?_⟩) ?_
  rotate_left
  · intro w hSw; (try dsimp only at hSw); go_simp; try (with_reducible rfl)
  try simp only [Act.put, nz1, nz2, nz3]
  refine tkH (v := ?_) 6 ⟨some 34, _, _, _, _, _⟩ rfl (Or.inl ⟨by rfl, ?_⟩) ?_
  rotate_left
  · intro w hSw; (try dsimp only at hSw); go_simp; try (with_reducible rfl)
  try simp only [Act.put, nz1, nz2, nz3]
  refine tkH (v := (.int .i64 s.round)) 7 ⟨some 35, _, _, _, _, _⟩ rfl (yields_one (by rfl) 3 _ rfl ⟨B, 3, none⟩ rfl _ _ (fun W' hS => hS.cell (i := 3) (by omega)) Try.underlying3 rfl) ?_
  try simp only [Act.put, nz1, nz2, nz3]
  refine wpAnyH_ready (rs := [8]) (by kernel_rfl) (by simp) ?_
  refine (AllReadyH.cons (o := ⟨some 36, _, _, _, _, _⟩) rfl (fun K hK => ?_) AllReadyH.nil)
  (try rw [if_pos (by rfl)])
  go_simp
  refine (HAH.out _ hR).mono ?_
  rintro e Wn ⟨rfl, hbn⟩
  replace hR := hR.below hbn
  replace hC := hC.trans (Chg.ofBelow hbn)
  clear hbn
  try dsimp only
  refine hK.out _ _ (hR) (fun hHeld => ?_)
  clear hK K
  try simp only [Act.put, nz1, nz2, nz3]
  refine tkH (v := ?_) 9 ⟨some 27, _, _, _, _, _⟩ rfl (Or.inl ⟨by rfl, ?_⟩) ?_
  rotate_left
  · intro w hSw; (try dsimp only at hSw); go_simp; try (with_reducible rfl)
  try simp only [Act.put, nz1, nz2, nz3]
  refine tkH (v := ?_) 10 ⟨some 37, _, _, _, _, _⟩ rfl (Or.inl ⟨by rfl, ?_⟩) ?_
  rotate_left
  · intro w hSw; (try dsimp only at hSw); go_simp; try (with_reducible rfl)
  try simp only [Act.put, nz1, nz2, nz3]
  refine tkH (v := ?_) 11 ⟨some 38, _, _, _, _, _⟩ rfl (Or.inl ⟨by rfl, ?_⟩) ?_
  rotate_left
  · intro w hSw; (try dsimp only at hSw); go_simp; try (with_reducible rfl)
  try simp only [Act.put, nz1, nz2, nz3]
  refine tkH (v := ?_) 12 ⟨some 7, _, _, _, _, _⟩ rfl (Or.inl ⟨by rfl, ?_⟩) ?_
  rotate_left
  · intro w hSw; (try dsimp only at hSw); go_simp; try (with_reducible rfl)
  try simp only [Act.put, nz1, nz2, nz3]
  refine tkH (v := ?_) 13 ⟨some 8, _, _, _, _, _⟩ rfl (Or.inl ⟨by rfl, ?_⟩) ?_
  rotate_left
  · intro w hSw; (try dsimp only at hSw); go_simp; try (with_reducible rfl)
  try simp only [Act.put, nz1, nz2, nz3]
  refine wpAnyH_done (by kernel_rfl) ?_ _
  go_wp2_with (go_at_call 61; refine (begin_any hR (mm : Int) HM.out).mono ?_; rintro e Wz ⟨⟨vz, rfl, haz⟩, hrz, hgz⟩)
  go_ret2
  exact ⟨⟨_, by rw [HFIN.out]; rfl, by rw [HFIN.out]; exact haz.own.low hC.size⟩, by rw [HFIN.out]; exact hrz.mono (Nat.le_succ n), hC.trans (Chg.ofB hgz)⟩
set_option maxRecDepth 100000 in
set_option maxHeartbeats 8000000 in
theorem next_choice {W : World} {B C M n : Nat} {kv : Value} {s : RdS} (h : RoundAt W B C M n kv s) (hr : 0 ≤ s.round) (hn : n < maxLen) (hag : agreedS s = none) (hah : aheadO s.voters s.votes s.round = none) (x : List UInt8) (hx : IdOk x) (hch : choiceS s = some x) : Calls Try.prog 70 #[.pointer (some ⟨B, 0, none⟩)] W fun e w' => (∃ v, e = .returned (.tuple #[v, .bool (nextS s).isSome]) ∧ OwnA W.heap.size w' v (((nextS s).map (·.2)).getD [])) ∧ RoundAt w' B C M (n + 1) kv (((nextS s).map (·.1)).getD s) ∧ Chg W w' B M kv kv := by
  have HFIN : Hid (nextS s = some (castS s 0 x, castA s 0 x)) := Lib.hid (by unfold nextS; rw [hag, hah, hch])
  have hR := h
  have hC := Chg.refl W B M kv
  have HN := Lib.hid hn
  have HR0 := Lib.hid hr
  have HWR : Hid (wfi s.round) := Lib.hid (wfi_small (by omega) (by have := h.ok.round; omega))
  have HOK := Lib.hid h.ok
  have HX := Lib.hid hx
  have HAG : Hid (∀ W', RoundAt W' B C M n kv s → Calls Try.prog 76 #[.pointer (some ⟨B, 0, none⟩)] W' fun e w' => e = .returned (.tuple #[.int .i64 0, idv zeroId, .bool false]) ∧ Below W'.heap.size W' w') := Lib.hid fun W' hR => by have := agreed_any hR; rwa [hag] at this
  have HAH : Hid (∀ W', RoundAt W' B C M n kv s → Calls Try.prog 28 #[.pointer (some ⟨C, 0, none⟩), .int .i64 s.round] W' fun e w' => e = .returned (.tuple #[.int .i64 0, .bool false]) ∧ Below W'.heap.size W' w') := Lib.hid fun W' hR => by have := ahead_any hR.cnt s.round HWR.out HOK.out.voters.2.1 HOK.out.voters.2.2; rwa [hah] at this
  have HCH : Hid (∀ W', RoundAt W' B C M n kv s → Calls Try.prog 77 #[.pointer (some ⟨B, 0, none⟩)] W' fun e w' => e = .returned (.tuple #[idv x, .bool true]) ∧ Below W'.heap.size W' w') := Lib.hid fun W' hR => by have := choice_any hR; rwa [hch] at this
  clear hag hah hch hx
  clear h hn hr
  go_enter Try.func70, Try.ntmps70
  go_upto_region 5 with (first
    | (go_at_call 76; refine (HAG.out _ hR).mono ?_; rintro e Wn ⟨rfl, hbn⟩; replace hR := hR.below hbn; replace hC := hC.trans (Chg.ofBelow hbn); clear hbn)
    | (guard_target = wpList _ _ _ (Oper.mk _ (.store 24 _ _) _ _ _ _ :: _) _ _; refine wpList_store_idv rfl _ _ rfl Wn.heap.size (zeroId) rfl rfl zeroId_ok 24 _ (Blk.newAt _ _ rfl rfl) rfl ?_; intro W3 hS3 hz3 hb3 hk3; have hbn := (((Below.refl _ Wn).alloc (Nat.le_refl _) _).trans hb3); clear hb3 hk3 hz3; replace hR := hR.below hbn; replace hC := hC.trans (Chg.ofBelow hbn); clear hbn; clear hS3))
  replace hR := hR.drew
  replace hC := hC.trans (Chg.ofBelow (Below.refl _ _).drew)
  refine wp_region_held_drew (S := fun W' => RoundAt W' B C M n kv s) (by kernel_rfl) ?_ (fun hHeld => ?_)
  · exact hR
  refine tkH (v := ?_) 0 ⟨some 28, _, _, _, _, _⟩ rfl (Or.inl ⟨by rfl, ?_⟩) ?_
  rotate_left
  · intro w hSw; (try dsimp only at hSw); go_simp; try (with_reducible rfl)
  try simp only [Act.put, nz1, nz2, nz3]
  refine tkH (v := ?_) 1 ⟨some 29, _, _, _, _, _⟩ rfl (Or.inl ⟨by rfl, ?_⟩) ?_
  rotate_left
  · intro w hSw; (try dsimp only at hSw); go_simp; try (with_reducible rfl)
  try simp only [Act.put, nz1, nz2, nz3]
  refine tkH (v := ?_) 2 ⟨some 30, _, _, _, _, _⟩ rfl (Or.inl ⟨by rfl, ?_⟩) ?_
  rotate_left
  · intro w hSw; (try dsimp only at hSw); go_simp; try (with_reducible rfl)
  try simp only [Act.put, nz1, nz2, nz3]
  refine tkH (v := (.pointer (some ⟨C, 0, none⟩))) 3 ⟨some 31, _, _, _, _, _⟩ rfl (yields_one (by rfl) 28 _ rfl ⟨B, 548, none⟩ rfl _ _ (fun W' hS => hS.cell (i := 548) (by omega)) Try.underlying28 rfl) ?_
  try simp only [Act.put, nz1, nz2, nz3]
  refine tkH (v := ?_) 4 ⟨some 32, _, _, _, _, _⟩ rfl (Or.inl ⟨by rfl, ?_⟩) ?_
  rotate_left
  · intro w hSw; (try dsimp only at hSw); go_simp; try (with_reducible rfl)
  try simp only [Act.put, nz1, nz2, nz3]
  refine tkH (v := ?_) 5 ⟨some 33, _, _, _, _, _⟩ rfl (Or.inl ⟨by rfl, ?_⟩) ?_
  rotate_left
  · intro w hSw; (try dsimp only at hSw); go_simp; try (with_reducible rfl)
  try simp only [Act.put, nz1, nz2, nz3]
  refine tkH (v := ?_) 6 ⟨some 34, _, _, _, _, _⟩ rfl (Or.inl ⟨by rfl, ?_⟩) ?_
  rotate_left
  · intro w hSw; (try dsimp only at hSw); go_simp; try (with_reducible rfl)
  try simp only [Act.put, nz1, nz2, nz3]
  refine tkH (v := (.int .i64 s.round)) 7 ⟨some 35, _, _, _, _, _⟩ rfl (yields_one (by rfl) 3 _ rfl ⟨B, 3, none⟩ rfl _ _ (fun W' hS => hS.cell (i := 3) (by omega)) Try.underlying3 rfl) ?_
  try simp only [Act.put, nz1, nz2, nz3]
  refine wpAnyH_ready (rs := [8]) (by kernel_rfl) (by simp) ?_
  refine (AllReadyH.cons (o := ⟨some 36, _, _, _, _, _⟩) rfl (fun K hK => ?_) AllReadyH.nil)
  (try rw [if_pos (by rfl)])
  go_simp
  refine (HAH.out _ hR).mono ?_
  rintro e Wn ⟨rfl, hbn⟩
  replace hR := hR.below hbn
  replace hC := hC.trans (Chg.ofBelow hbn)
  clear hbn
  try dsimp only
  refine hK.out _ _ (hR) (fun hHeld => ?_)
  clear hK K
  try simp only [Act.put, nz1, nz2, nz3]
  refine tkH (v := ?_) 9 ⟨some 27, _, _, _, _, _⟩ rfl (Or.inl ⟨by rfl, ?_⟩) ?_
  rotate_left
  · intro w hSw; (try dsimp only at hSw); go_simp; try (with_reducible rfl)
  try simp only [Act.put, nz1, nz2, nz3]
  refine tkH (v := ?_) 10 ⟨some 37, _, _, _, _, _⟩ rfl (Or.inl ⟨by rfl, ?_⟩) ?_
  rotate_left
  · intro w hSw; (try dsimp only at hSw); go_simp; try (with_reducible rfl)
  try simp only [Act.put, nz1, nz2, nz3]
  refine tkH (v := ?_) 11 ⟨some 38, _, _, _, _, _⟩ rfl (Or.inl ⟨by rfl, ?_⟩) ?_
  rotate_left
  · intro w hSw; (try dsimp only at hSw); go_simp; try (with_reducible rfl)
  try simp only [Act.put, nz1, nz2, nz3]
  refine tkH (v := ?_) 12 ⟨some 7, _, _, _, _, _⟩ rfl (Or.inl ⟨by rfl, ?_⟩) ?_
  rotate_left
  · intro w hSw; (try dsimp only at hSw); go_simp; try (with_reducible rfl)
  try simp only [Act.put, nz1, nz2, nz3]
  refine tkH (v := ?_) 13 ⟨some 8, _, _, _, _, _⟩ rfl (Or.inl ⟨by rfl, ?_⟩) ?_
  rotate_left
  · intro w hSw; (try dsimp only at hSw); go_simp; try (with_reducible rfl)
  try simp only [Act.put, nz1, nz2, nz3]
  refine wpAnyH_done (by kernel_rfl) ?_ _
  go_wp2_with (first
    | (go_at_call 77; refine (HCH.out _ hR).mono ?_; rintro e Wn ⟨rfl, hbn⟩; replace hR := hR.below hbn; replace hC := hC.trans (Chg.ofBelow hbn); clear hbn)
    | (guard_target = wpList _ _ _ (Oper.mk _ (.store 24 _ _) _ _ _ _ :: _) _ _; refine wpList_store_idv rfl _ _ rfl Wn.heap.size (x) rfl rfl HX.out 24 _ (Blk.newAt _ _ rfl rfl) rfl ?_; intro W3 hS3 hz3 hb3 hk3; have hbn := (((Below.refl _ Wn).alloc (Nat.le_refl _) _).trans hb3); clear hb3 hk3 hz3; replace hR := hR.below hbn; replace hC := hC.trans (Chg.ofBelow hbn); clear hbn)
    | (guard_target = wpList _ _ _ (Oper.mk _ (.load 24 _) _ _ _ _ :: _) _ _; refine wpList_load_runS (by rfl) 24 _ rfl _ _ rfl (run_loadVar_idv HX.out hS3) ?_)
    | (go_at_call 62; refine (castR_any hR 0 (.inl rfl) x HX.out HR0.out HN.out).mono ?_; rintro e Wz ⟨⟨vz, rfl, haz⟩, hrz, hcz⟩))
  go_ret2
  exact ⟨⟨_, by rw [HFIN.out]; rfl, by rw [HFIN.out]; exact haz.own.low hC.size⟩, by rw [HFIN.out]; exact hrz, hC.trans hcz⟩
set_option maxRecDepth 100000 in
set_option maxHeartbeats 8000000 in
theorem next_better {W : World} {B C M n : Nat} {kv : Value} {s : RdS} (h : RoundAt W B C M n kv s) (hr : 0 ≤ s.round) (hn : n < maxLen) (hag : agreedS s = none) (hah : aheadO s.voters s.votes s.round = none) (hch : choiceS s = none) (x : List UInt8) (hx : IdOk x) (hsu : sureS s s.round 0 = some x) (hst : s.step ≠ 0) (hbe : s.bestR ≠ s.round + 1) : Calls Try.prog 70 #[.pointer (some ⟨B, 0, none⟩)] W fun e w' => (∃ v, e = .returned (.tuple #[v, .bool (nextS s).isSome]) ∧ OwnA W.heap.size w' v (((nextS s).map (·.2)).getD [])) ∧ RoundAt w' B C M (n + 1) kv (((nextS s).map (·.1)).getD s) ∧ Chg W w' B M kv kv := by
  have HFIN : Hid (nextS s = some (betterS s x, betterA s x)) := Lib.hid (by unfold nextS; rw [hag, hah, hch]; dsimp only; rw [show sure0 s = some x by unfold sure0; rw [if_pos ⟨hst, hbe⟩, hsu]])
  have hR := h
  have hC := Chg.refl W B M kv
  have HN := Lib.hid hn
  have HR0 := Lib.hid hr
  have HWR : Hid (wfi s.round) := Lib.hid (wfi_small (by omega) (by have := h.ok.round; omega))
  have HOK := Lib.hid h.ok
  have HX := Lib.hid hx
  have HST := Lib.hid hst
  have HBE := Lib.hid hbe
  have HAG : Hid (∀ W', RoundAt W' B C M n kv s → Calls Try.prog 76 #[.pointer (some ⟨B, 0, none⟩)] W' fun e w' => e = .returned (.tuple #[.int .i64 0, idv zeroId, .bool false]) ∧ Below W'.heap.size W' w') := Lib.hid fun W' hR => by have := agreed_any hR; rwa [hag] at this
  have HAH : Hid (∀ W', RoundAt W' B C M n kv s → Calls Try.prog 28 #[.pointer (some ⟨C, 0, none⟩), .int .i64 s.round] W' fun e w' => e = .returned (.tuple #[.int .i64 0, .bool false]) ∧ Below W'.heap.size W' w') := Lib.hid fun W' hR => by have := ahead_any hR.cnt s.round HWR.out HOK.out.voters.2.1 HOK.out.voters.2.2; rwa [hah] at this
  have HCH : Hid (∀ W', RoundAt W' B C M n kv s → Calls Try.prog 77 #[.pointer (some ⟨B, 0, none⟩)] W' fun e w' => e = .returned (.tuple #[idv zeroId, .bool false]) ∧ Below W'.heap.size W' w') := Lib.hid fun W' hR => by have := choice_any hR; rwa [hch] at this
  have HSU : Hid (∀ W', RoundAt W' B C M n kv s → Calls Try.prog 78 #[.pointer (some ⟨B, 0, none⟩), .int .i64 s.round, .int .i64 0] W' fun e w' => e = .returned (.tuple #[idv (x), .bool true]) ∧ Below W'.heap.size W' w') := Lib.hid fun W' hR => by have := sureR_any hR s.round 0 HWR.out (wfi_small (by omega) (by omega)); rwa [hsu] at this
  clear hag hah hch hx hsu hst hbe
  clear h hn hr
  go_enter Try.func70, Try.ntmps70
  go_upto_region 5 with (first
    | (go_at_call 76; refine (HAG.out _ hR).mono ?_; rintro e Wn ⟨rfl, hbn⟩; replace hR := hR.below hbn; replace hC := hC.trans (Chg.ofBelow hbn); clear hbn)
    | (guard_target = wpList _ _ _ (Oper.mk _ (.store 24 _ _) _ _ _ _ :: _) _ _; refine wpList_store_idv rfl _ _ rfl Wn.heap.size (zeroId) rfl rfl zeroId_ok 24 _ (Blk.newAt _ _ rfl rfl) rfl ?_; intro W3 hS3 hz3 hb3 hk3; have hbn := (((Below.refl _ Wn).alloc (Nat.le_refl _) _).trans hb3); clear hb3 hk3 hz3; replace hR := hR.below hbn; replace hC := hC.trans (Chg.ofBelow hbn); clear hbn; clear hS3))
  replace hR := hR.drew
  replace hC := hC.trans (Chg.ofBelow (Below.refl _ _).drew)
  refine wp_region_held_drew (S := fun W' => RoundAt W' B C M n kv s) (by kernel_rfl) ?_ (fun hHeld => ?_)
  · exact hR
  refine tkH (v := ?_) 0 ⟨some 28, _, _, _, _, _⟩ rfl (Or.inl ⟨by rfl, ?_⟩) ?_
  rotate_left
  · intro w hSw; (try dsimp only at hSw); go_simp; try (with_reducible rfl)
  try simp only [Act.put, nz1, nz2, nz3]
  refine tkH (v := ?_) 1 ⟨some 29, _, _, _, _, _⟩ rfl (Or.inl ⟨by rfl, ?_⟩) ?_
  rotate_left
  · intro w hSw; (try dsimp only at hSw); go_simp; try (with_reducible rfl)
  try simp only [Act.put, nz1, nz2, nz3]
  refine tkH (v := ?_) 2 ⟨some 30, _, _, _, _, _⟩ rfl (Or.inl ⟨by rfl, ?_⟩) ?_
  rotate_left
  · intro w hSw; (try dsimp only at hSw); go_simp; try (with_reducible rfl)
  try simp only [Act.put, nz1, nz2, nz3]
  refine tkH (v := (.pointer (some ⟨C, 0, none⟩))) 3 ⟨some 31, _, _, _, _, _⟩ rfl (yields_one (by rfl) 28 _ rfl ⟨B, 548, none⟩ rfl _ _ (fun W' hS => hS.cell (i := 548) (by omega)) Try.underlying28 rfl) ?_
  try simp only [Act.put, nz1, nz2, nz3]
  refine tkH (v := ?_) 4 ⟨some 32, _, _, _, _, _⟩ rfl (Or.inl ⟨by rfl, ?_⟩) ?_
  rotate_left
  · intro w hSw; (try dsimp only at hSw); go_simp; try (with_reducible rfl)
  try simp only [Act.put, nz1, nz2, nz3]
  refine tkH (v := ?_) 5 ⟨some 33, _, _, _, _, _⟩ rfl (Or.inl ⟨by rfl, ?_⟩) ?_
  rotate_left
  · intro w hSw; (try dsimp only at hSw); go_simp; try (with_reducible rfl)
  try simp only [Act.put, nz1, nz2, nz3]
  refine tkH (v := ?_) 6 ⟨some 34, _, _, _, _, _⟩ rfl (Or.inl ⟨by rfl, ?_⟩) ?_
  rotate_left
  · intro w hSw; (try dsimp only at hSw); go_simp; try (with_reducible rfl)
  try simp only [Act.put, nz1, nz2, nz3]
  refine tkH (v := (.int .i64 s.round)) 7 ⟨some 35, _, _, _, _, _⟩ rfl (yields_one (by rfl) 3 _ rfl ⟨B, 3, none⟩ rfl _ _ (fun W' hS => hS.cell (i := 3) (by omega)) Try.underlying3 rfl) ?_
  try simp only [Act.put, nz1, nz2, nz3]
  refine wpAnyH_ready (rs := [8]) (by kernel_rfl) (by simp) ?_
  refine (AllReadyH.cons (o := ⟨some 36, _, _, _, _, _⟩) rfl (fun K hK => ?_) AllReadyH.nil)
  (try rw [if_pos (by rfl)])
  go_simp
  refine (HAH.out _ hR).mono ?_
  rintro e Wn ⟨rfl, hbn⟩
  replace hR := hR.below hbn
  replace hC := hC.trans (Chg.ofBelow hbn)
  clear hbn
  try dsimp only
  refine hK.out _ _ (hR) (fun hHeld => ?_)
  clear hK K
  try simp only [Act.put, nz1, nz2, nz3]
  refine tkH (v := ?_) 9 ⟨some 27, _, _, _, _, _⟩ rfl (Or.inl ⟨by rfl, ?_⟩) ?_
  rotate_left
  · intro w hSw; (try dsimp only at hSw); go_simp; try (with_reducible rfl)
  try simp only [Act.put, nz1, nz2, nz3]
  refine tkH (v := ?_) 10 ⟨some 37, _, _, _, _, _⟩ rfl (Or.inl ⟨by rfl, ?_⟩) ?_
  rotate_left
  · intro w hSw; (try dsimp only at hSw); go_simp; try (with_reducible rfl)
  try simp only [Act.put, nz1, nz2, nz3]
  refine tkH (v := ?_) 11 ⟨some 38, _, _, _, _, _⟩ rfl (Or.inl ⟨by rfl, ?_⟩) ?_
  rotate_left
  · intro w hSw; (try dsimp only at hSw); go_simp; try (with_reducible rfl)
  try simp only [Act.put, nz1, nz2, nz3]
  refine tkH (v := ?_) 12 ⟨some 7, _, _, _, _, _⟩ rfl (Or.inl ⟨by rfl, ?_⟩) ?_
  rotate_left
  · intro w hSw; (try dsimp only at hSw); go_simp; try (with_reducible rfl)
  try simp only [Act.put, nz1, nz2, nz3]
  refine tkH (v := ?_) 13 ⟨some 8, _, _, _, _, _⟩ rfl (Or.inl ⟨by rfl, ?_⟩) ?_
  rotate_left
  · intro w hSw; (try dsimp only at hSw); go_simp; try (with_reducible rfl)
  try simp only [Act.put, nz1, nz2, nz3]
  refine wpAnyH_done (by kernel_rfl) ?_ _
  go_upto_region 11 with (first
    | (go_at_call 77; refine (HCH.out _ hR).mono ?_; rintro e Wn ⟨rfl, hbn⟩; replace hR := hR.below hbn; replace hC := hC.trans (Chg.ofBelow hbn); clear hbn)
    | (guard_target = wpList _ _ _ (Oper.mk _ (.store 24 _ _) _ _ _ _ :: _) _ _; refine wpList_store_idv rfl _ _ rfl Wn.heap.size (zeroId) rfl rfl zeroId_ok 24 _ (Blk.newAt _ _ rfl rfl) rfl ?_; intro W3 hS3 hz3 hb3 hk3; have hbn := (((Below.refl _ Wn).alloc (Nat.le_refl _) _).trans hb3); clear hb3 hk3 hz3; replace hR := hR.below hbn; replace hC := hC.trans (Chg.ofBelow hbn); clear hbn; clear hS3))
  have c3 := hR.cell (i := 3) (by omega)
  change _ = some (Value.int IntKind.i64 s.round) at c3
  go_upto_region 12 with (first
    | (go_at_call 78; refine (HSU.out _ hR).mono ?_; rintro e Wn ⟨rfl, hbn⟩; replace hR := hR.below hbn; replace hC := hC.trans (Chg.ofBelow hbn); clear hbn)
    | (guard_target = wpList _ _ _ (Oper.mk _ (.store 24 _ _) _ _ _ _ :: _) _ _; refine wpList_store_idv rfl _ _ rfl Wn.heap.size (x) rfl rfl HX.out 24 _ (Blk.newAt _ _ rfl rfl) rfl ?_; intro W3 hS3 hz3 hb3 hk3; have hbn := (((Below.refl _ Wn).alloc (Nat.le_refl _) _).trans hb3); clear hb3 hk3 hz3; replace hR := hR.below hbn; replace hC := hC.trans (Chg.ofBelow hbn); clear hbn))
  clear c3
  replace hR := hR.drew
  replace hC := hC.trans (Chg.ofBelow (Below.refl _ _).drew)
  refine wp_region_held_drew (S := fun W' => RoundAt W' B C M n kv s) (by kernel_rfl) ?_ (fun hHeld => ?_)
  · exact hR
  refine tkH (v := ?_) 0 ⟨some 61, _, _, _, _, _⟩ rfl (Or.inl ⟨by rfl, ?_⟩) ?_
  rotate_left
  · intro w hSw; (try dsimp only at hSw); go_simp; try (with_reducible rfl)
  try simp only [Act.put, nz1, nz2, nz3]
  refine tkH (v := ?_) 1 ⟨some 62, _, _, _, _, _⟩ rfl (Or.inl ⟨by rfl, ?_⟩) ?_
  rotate_left
  · intro w hSw; (try dsimp only at hSw); go_simp; try (with_reducible rfl)
  try simp only [Act.put, nz1, nz2, nz3]
  refine tkH (v := ?_) 2 ⟨some 63, _, _, _, _, _⟩ rfl (Or.inl ⟨by rfl, ?_⟩) ?_
  rotate_left
  · intro w hSw; (try dsimp only at hSw); go_simp; try (with_reducible rfl)
  try simp only [Act.put, nz1, nz2, nz3]
  refine tkH (v := ?_) 3 ⟨some 64, _, _, _, _, _⟩ rfl (Or.inl ⟨by rfl, ?_⟩) ?_
  rotate_left
  · intro w hSw; (try dsimp only at hSw); go_simp; try (with_reducible rfl)
  try simp only [Act.put, nz1, nz2, nz3]
  refine tkH (v := ?_) 4 ⟨some 65, _, _, _, _, _⟩ rfl (Or.inl ⟨by rfl, ?_⟩) ?_
  rotate_left
  · intro w hSw; (try dsimp only at hSw); go_simp; try (with_reducible rfl)
  try simp only [Act.put, nz1, nz2, nz3]
  refine tkH (v := (.int .i64 s.step)) 5 ⟨some 66, _, _, _, _, _⟩ rfl (yields_one (by rfl) 3 _ rfl ⟨B, 4, none⟩ rfl _ _ (fun W' hS => hS.cell (i := 4) (by omega)) Try.underlying3 rfl) ?_
  try simp only [Act.put, nz1, nz2, nz3]
  refine tkH (v := (.bool true)) 6 ⟨some 67, _, _, _, _, _⟩ rfl (yields_binR (by rfl) .neq 3 _ _ _ rfl (.int .i64 s.step) (.int .i64 0) rfl rfl _ (fun w => by rfl) (fun w => int_neq _ _ _ (by simpa using HST.out) w)) ?_
  try simp only [Act.put, nz1, nz2, nz3]
  refine tkH (v := ?_) 7 ⟨some 68, _, _, _, _, _⟩ rfl (Or.inl ⟨by rfl, ?_⟩) ?_
  rotate_left
  · intro w hSw; (try dsimp only at hSw); go_simp; try (with_reducible rfl)
  try simp only [Act.put, nz1, nz2, nz3]
  refine tkH (v := ?_) 8 ⟨some 69, _, _, _, _, _⟩ rfl (Or.inl ⟨by rfl, ?_⟩) ?_
  rotate_left
  · intro w hSw; (try dsimp only at hSw); go_simp; try (with_reducible rfl)
  try simp only [Act.put, nz1, nz2, nz3]
  refine tkH (v := ?_) 9 ⟨some 70, _, _, _, _, _⟩ rfl (Or.inl ⟨by rfl, ?_⟩) ?_
  rotate_left
  · intro w hSw; (try dsimp only at hSw); go_simp; try (with_reducible rfl)
  try simp only [Act.put, nz1, nz2, nz3]
  refine tkH (v := ?_) 10 ⟨some 71, _, _, _, _, _⟩ rfl (Or.inl ⟨by rfl, ?_⟩) ?_
  rotate_left
  · intro w hSw; (try dsimp only at hSw); go_simp; try (with_reducible rfl)
  try simp only [Act.put, nz1, nz2, nz3]
  refine tkH (v := ?_) 11 ⟨some 72, _, _, _, _, _⟩ rfl (Or.inl ⟨by rfl, ?_⟩) ?_
  rotate_left
  · intro w hSw; (try dsimp only at hSw); go_simp; try (with_reducible rfl)
  try simp only [Act.put, nz1, nz2, nz3]
  refine tkH (v := ?_) 12 ⟨some 73, _, _, _, _, _⟩ rfl (Or.inl ⟨by rfl, ?_⟩) ?_
  rotate_left
  · intro w hSw; (try dsimp only at hSw); go_simp; try (with_reducible rfl)
  try simp only [Act.put, nz1, nz2, nz3]
  refine tkH (v := (.int .i64 s.bestR)) 13 ⟨some 74, _, _, _, _, _⟩ rfl (yields_one (by rfl) 3 _ rfl ⟨B, 70, none⟩ rfl _ _ (fun W' hS => hS.cell (i := 70) (by omega)) Try.underlying3 rfl) ?_
  try simp only [Act.put, nz1, nz2, nz3]
  refine tkH (v := ?_) 14 ⟨some 75, _, _, _, _, _⟩ rfl (Or.inl ⟨by rfl, ?_⟩) ?_
  rotate_left
  · intro w hSw; (try dsimp only at hSw); go_simp; try (with_reducible rfl)
  try simp only [Act.put, nz1, nz2, nz3]
  refine tkH (v := ?_) 15 ⟨some 76, _, _, _, _, _⟩ rfl (Or.inl ⟨by rfl, ?_⟩) ?_
  rotate_left
  · intro w hSw; (try dsimp only at hSw); go_simp; try (with_reducible rfl)
  try simp only [Act.put, nz1, nz2, nz3]
  refine tkH (v := ?_) 16 ⟨some 77, _, _, _, _, _⟩ rfl (Or.inl ⟨by rfl, ?_⟩) ?_
  rotate_left
  · intro w hSw; (try dsimp only at hSw); go_simp; try (with_reducible rfl)
  try simp only [Act.put, nz1, nz2, nz3]
  refine tkH (v := (.int .i64 s.round)) 17 ⟨some 78, _, _, _, _, _⟩ rfl (yields_one (by rfl) 3 _ rfl ⟨B, 3, none⟩ rfl _ _ (fun W' hS => hS.cell (i := 3) (by omega)) Try.underlying3 rfl) ?_
  try simp only [Act.put, nz1, nz2, nz3]
  refine tkH (v := (.int .i64 (s.round + 1))) 18 ⟨some 79, _, _, _, _, _⟩ rfl (yields_binR (by rfl) .add 3 _ _ _ rfl (.int .i64 s.round) (.int .i64 1) rfl rfl _ (fun w => by rfl) (fun w => int_add1 s.round (by have := HOK.out.round; omega) w)) ?_
  try simp only [Act.put, nz1, nz2, nz3]
  refine tkH (v := (.bool true)) 19 ⟨some 80, _, _, _, _, _⟩ rfl (yields_binR (by rfl) .neq 3 _ _ _ rfl (.int .i64 s.bestR) (.int .i64 (s.round + 1)) rfl rfl _ (fun w => by rfl) (fun w => int_neq _ _ _ (by simpa using HBE.out) w)) ?_
  try simp only [Act.put, nz1, nz2, nz3]
  refine tkH (v := ?_) 20 ⟨some 81, _, _, _, _, _⟩ rfl (Or.inl ⟨by rfl, ?_⟩) ?_
  rotate_left
  · intro w hSw; (try dsimp only at hSw); go_simp; try (with_reducible rfl)
  try simp only [Act.put, nz1, nz2, nz3]
  refine wpAnyH_done (by kernel_rfl) ?_ _
  go_wp2_with (first
    | (guard_target = wpList _ _ _ (Oper.mk _ (.load 24 _) _ _ _ _ :: _) _ _; refine wpList_load_runS (by rfl) 24 _ rfl _ _ rfl (run_loadVar_idv HX.out (hS3.below (Below.refl _ _).drew hS3.lt)) ?_)
    | (go_at_call 79; refine (better_any hR x HX.out HR0.out HN.out).mono ?_; rintro e Wz ⟨⟨vz, rfl, haz⟩, hrz, hcz⟩))
  go_ret2
  exact ⟨⟨_, by rw [HFIN.out]; rfl, by rw [HFIN.out]; exact haz.own.low hC.size⟩, by rw [HFIN.out]; exact hrz, hC.trans hcz⟩
set_option maxRecDepth 100000 in
set_option maxHeartbeats 8000000 in
theorem next_none_off {W : World} {B C M n : Nat} {kv : Value} {s : RdS} (h : RoundAt W B C M n kv s) (hr : 0 ≤ s.round) (hn : n < maxLen) (hag : agreedS s = none) (hah : aheadO s.voters s.votes s.round = none) (hch : choiceS s = none) (hsu : sureS s s.round 0 = none) (hs1 : s.step ≠ 1) : Calls Try.prog 70 #[.pointer (some ⟨B, 0, none⟩)] W fun e w' => (∃ v, e = .returned (.tuple #[v, .bool (nextS s).isSome]) ∧ OwnA W.heap.size w' v (((nextS s).map (·.2)).getD [])) ∧ RoundAt w' B C M (n + 1) kv (((nextS s).map (·.1)).getD s) ∧ Chg W w' B M kv kv := by
  have HFIN : Hid (nextS s = none) := Lib.hid (by unfold nextS; have h0 : sure0 s = none := (by unfold sure0; rw [hsu]; split <;> rfl); have h1 : nilDue s = false := (by unfold nilDue; rw [decide_eq_false hs1, Bool.false_and]); rw [hag, hah, hch]; dsimp only; rw [h0]; dsimp only; rw [h1]; rfl)
  have hR := h
  have hC := Chg.refl W B M kv
  have HN := Lib.hid hn
  have HR0 := Lib.hid hr
  have HWR : Hid (wfi s.round) := Lib.hid (wfi_small (by omega) (by have := h.ok.round; omega))
  have HOK := Lib.hid h.ok
  have hsb : (s.step == 1) = false := by rw [beq_eq_false_iff_ne]; exact hs1
  have HAG : Hid (∀ W', RoundAt W' B C M n kv s → Calls Try.prog 76 #[.pointer (some ⟨B, 0, none⟩)] W' fun e w' => e = .returned (.tuple #[.int .i64 0, idv zeroId, .bool false]) ∧ Below W'.heap.size W' w') := Lib.hid fun W' hR => by have := agreed_any hR; rwa [hag] at this
  have HAH : Hid (∀ W', RoundAt W' B C M n kv s → Calls Try.prog 28 #[.pointer (some ⟨C, 0, none⟩), .int .i64 s.round] W' fun e w' => e = .returned (.tuple #[.int .i64 0, .bool false]) ∧ Below W'.heap.size W' w') := Lib.hid fun W' hR => by have := ahead_any hR.cnt s.round HWR.out HOK.out.voters.2.1 HOK.out.voters.2.2; rwa [hah] at this
  have HCH : Hid (∀ W', RoundAt W' B C M n kv s → Calls Try.prog 77 #[.pointer (some ⟨B, 0, none⟩)] W' fun e w' => e = .returned (.tuple #[idv zeroId, .bool false]) ∧ Below W'.heap.size W' w') := Lib.hid fun W' hR => by have := choice_any hR; rwa [hch] at this
  have HSU : Hid (∀ W', RoundAt W' B C M n kv s → Calls Try.prog 78 #[.pointer (some ⟨B, 0, none⟩), .int .i64 s.round, .int .i64 0] W' fun e w' => e = .returned (.tuple #[idv (zeroId), .bool false]) ∧ Below W'.heap.size W' w') := Lib.hid fun W' hR => by have := sureR_any hR s.round 0 HWR.out (wfi_small (by omega) (by omega)); rwa [hsu] at this
  have HNI : Hid (∀ W', RoundAt W' B C M n kv s → Calls Try.prog 35 #[] W' fun e w' => e = .returned (idv nilId) ∧ Below W'.heap.size W' w') := Lib.hid fun W' hR => nil_any W'
  have HFO : Hid (∀ W', RoundAt W' B C M n kv s → Calls Try.prog 26 #[.pointer (some ⟨C, 0, none⟩), .int .i64 s.round, .int .i64 0, .agg (idC nilId)] W' fun e w' => e = .returned (.int .i64 (forN s.voters s.votes s.round 0 nilId : Int)) ∧ Below W'.heap.size W' w') := Lib.hid fun W' hR => for_any' hR.cnt s.round 0 nilId HWR.out (wfi_small (by omega) (by omega)) nilId_ok HOK.out.voters.2.1
  have HND : Hid (∀ W', RoundAt W' B C M n kv s → Calls Try.prog 19 #[.int .i64 (s.voters : Int)] W' fun e w' => e = .returned (.int .i64 (need s.voters)) ∧ Below W'.heap.size W' w') := Lib.hid fun W' hR => (need_any _ W').mono fun e w' ⟨h1, h2⟩ => ⟨h1, h2 ▸ Below.refl _ _⟩
  clear hag hah hch hsu hs1
  clear h hn hr
  go_enter Try.func70, Try.ntmps70
  go_upto_region 5 with (first
    | (go_at_call 76; refine (HAG.out _ hR).mono ?_; rintro e Wn ⟨rfl, hbn⟩; replace hR := hR.below hbn; replace hC := hC.trans (Chg.ofBelow hbn); clear hbn)
    | (guard_target = wpList _ _ _ (Oper.mk _ (.store 24 _ _) _ _ _ _ :: _) _ _; refine wpList_store_idv rfl _ _ rfl Wn.heap.size (zeroId) rfl rfl zeroId_ok 24 _ (Blk.newAt _ _ rfl rfl) rfl ?_; intro W3 hS3 hz3 hb3 hk3; have hbn := (((Below.refl _ Wn).alloc (Nat.le_refl _) _).trans hb3); clear hb3 hk3 hz3; replace hR := hR.below hbn; replace hC := hC.trans (Chg.ofBelow hbn); clear hbn; clear hS3))
  replace hR := hR.drew
  replace hC := hC.trans (Chg.ofBelow (Below.refl _ _).drew)
  refine wp_region_held_drew (S := fun W' => RoundAt W' B C M n kv s) (by kernel_rfl) ?_ (fun hHeld => ?_)
  · exact hR
  refine tkH (v := ?_) 0 ⟨some 28, _, _, _, _, _⟩ rfl (Or.inl ⟨by rfl, ?_⟩) ?_
  rotate_left
  · intro w hSw; (try dsimp only at hSw); go_simp; try (with_reducible rfl)
  try simp only [Act.put, nz1, nz2, nz3]
  refine tkH (v := ?_) 1 ⟨some 29, _, _, _, _, _⟩ rfl (Or.inl ⟨by rfl, ?_⟩) ?_
  rotate_left
  · intro w hSw; (try dsimp only at hSw); go_simp; try (with_reducible rfl)
  try simp only [Act.put, nz1, nz2, nz3]
  refine tkH (v := ?_) 2 ⟨some 30, _, _, _, _, _⟩ rfl (Or.inl ⟨by rfl, ?_⟩) ?_
  rotate_left
  · intro w hSw; (try dsimp only at hSw); go_simp; try (with_reducible rfl)
  try simp only [Act.put, nz1, nz2, nz3]
  refine tkH (v := (.pointer (some ⟨C, 0, none⟩))) 3 ⟨some 31, _, _, _, _, _⟩ rfl (yields_one (by rfl) 28 _ rfl ⟨B, 548, none⟩ rfl _ _ (fun W' hS => hS.cell (i := 548) (by omega)) Try.underlying28 rfl) ?_
  try simp only [Act.put, nz1, nz2, nz3]
  refine tkH (v := ?_) 4 ⟨some 32, _, _, _, _, _⟩ rfl (Or.inl ⟨by rfl, ?_⟩) ?_
  rotate_left
  · intro w hSw; (try dsimp only at hSw); go_simp; try (with_reducible rfl)
  try simp only [Act.put, nz1, nz2, nz3]
  refine tkH (v := ?_) 5 ⟨some 33, _, _, _, _, _⟩ rfl (Or.inl ⟨by rfl, ?_⟩) ?_
  rotate_left
  · intro w hSw; (try dsimp only at hSw); go_simp; try (with_reducible rfl)
  try simp only [Act.put, nz1, nz2, nz3]
  refine tkH (v := ?_) 6 ⟨some 34, _, _, _, _, _⟩ rfl (Or.inl ⟨by rfl, ?_⟩) ?_
  rotate_left
  · intro w hSw; (try dsimp only at hSw); go_simp; try (with_reducible rfl)
  try simp only [Act.put, nz1, nz2, nz3]
  refine tkH (v := (.int .i64 s.round)) 7 ⟨some 35, _, _, _, _, _⟩ rfl (yields_one (by rfl) 3 _ rfl ⟨B, 3, none⟩ rfl _ _ (fun W' hS => hS.cell (i := 3) (by omega)) Try.underlying3 rfl) ?_
  try simp only [Act.put, nz1, nz2, nz3]
  refine wpAnyH_ready (rs := [8]) (by kernel_rfl) (by simp) ?_
  refine (AllReadyH.cons (o := ⟨some 36, _, _, _, _, _⟩) rfl (fun K hK => ?_) AllReadyH.nil)
  (try rw [if_pos (by rfl)])
  go_simp
  refine (HAH.out _ hR).mono ?_
  rintro e Wn ⟨rfl, hbn⟩
  replace hR := hR.below hbn
  replace hC := hC.trans (Chg.ofBelow hbn)
  clear hbn
  try dsimp only
  refine hK.out _ _ (hR) (fun hHeld => ?_)
  clear hK K
  try simp only [Act.put, nz1, nz2, nz3]
  refine tkH (v := ?_) 9 ⟨some 27, _, _, _, _, _⟩ rfl (Or.inl ⟨by rfl, ?_⟩) ?_
  rotate_left
  · intro w hSw; (try dsimp only at hSw); go_simp; try (with_reducible rfl)
  try simp only [Act.put, nz1, nz2, nz3]
  refine tkH (v := ?_) 10 ⟨some 37, _, _, _, _, _⟩ rfl (Or.inl ⟨by rfl, ?_⟩) ?_
  rotate_left
  · intro w hSw; (try dsimp only at hSw); go_simp; try (with_reducible rfl)
  try simp only [Act.put, nz1, nz2, nz3]
  refine tkH (v := ?_) 11 ⟨some 38, _, _, _, _, _⟩ rfl (Or.inl ⟨by rfl, ?_⟩) ?_
  rotate_left
  · intro w hSw; (try dsimp only at hSw); go_simp; try (with_reducible rfl)
  try simp only [Act.put, nz1, nz2, nz3]
  refine tkH (v := ?_) 12 ⟨some 7, _, _, _, _, _⟩ rfl (Or.inl ⟨by rfl, ?_⟩) ?_
  rotate_left
  · intro w hSw; (try dsimp only at hSw); go_simp; try (with_reducible rfl)
  try simp only [Act.put, nz1, nz2, nz3]
  refine tkH (v := ?_) 13 ⟨some 8, _, _, _, _, _⟩ rfl (Or.inl ⟨by rfl, ?_⟩) ?_
  rotate_left
  · intro w hSw; (try dsimp only at hSw); go_simp; try (with_reducible rfl)
  try simp only [Act.put, nz1, nz2, nz3]
  refine wpAnyH_done (by kernel_rfl) ?_ _
  go_upto_region 11 with (first
    | (go_at_call 77; refine (HCH.out _ hR).mono ?_; rintro e Wn ⟨rfl, hbn⟩; replace hR := hR.below hbn; replace hC := hC.trans (Chg.ofBelow hbn); clear hbn)
    | (guard_target = wpList _ _ _ (Oper.mk _ (.store 24 _ _) _ _ _ _ :: _) _ _; refine wpList_store_idv rfl _ _ rfl Wn.heap.size (zeroId) rfl rfl zeroId_ok 24 _ (Blk.newAt _ _ rfl rfl) rfl ?_; intro W3 hS3 hz3 hb3 hk3; have hbn := (((Below.refl _ Wn).alloc (Nat.le_refl _) _).trans hb3); clear hb3 hk3 hz3; replace hR := hR.below hbn; replace hC := hC.trans (Chg.ofBelow hbn); clear hbn; clear hS3))
  have c3 := hR.cell (i := 3) (by omega)
  change _ = some (Value.int IntKind.i64 s.round) at c3
  go_upto_region 12 with (first
    | (go_at_call 78; refine (HSU.out _ hR).mono ?_; rintro e Wn ⟨rfl, hbn⟩; replace hR := hR.below hbn; replace hC := hC.trans (Chg.ofBelow hbn); clear hbn)
    | (guard_target = wpList _ _ _ (Oper.mk _ (.store 24 _ _) _ _ _ _ :: _) _ _; refine wpList_store_idv rfl _ _ rfl Wn.heap.size (zeroId) rfl rfl zeroId_ok 24 _ (Blk.newAt _ _ rfl rfl) rfl ?_; intro W3 hS3 hz3 hb3 hk3; have hbn := (((Below.refl _ Wn).alloc (Nat.le_refl _) _).trans hb3); clear hb3 hk3 hz3; replace hR := hR.below hbn; replace hC := hC.trans (Chg.ofBelow hbn); clear hbn; clear hS3))
  clear c3
  replace hR := hR.drew
  replace hC := hC.trans (Chg.ofBelow (Below.refl _ _).drew)
  refine wp_region_held_drew (S := fun W' => RoundAt W' B C M n kv s) (by kernel_rfl) ?_ (fun hHeld => ?_)
  · exact hR
  refine tkH (v := ?_) 0 ⟨some 61, _, _, _, _, _⟩ rfl (Or.inl ⟨by rfl, ?_⟩) ?_
  rotate_left
  · intro w hSw; (try dsimp only at hSw); go_simp; try (with_reducible rfl)
  try simp only [Act.put, nz1, nz2, nz3]
  refine tkH (v := ?_) 1 ⟨some 62, _, _, _, _, _⟩ rfl (Or.inl ⟨by rfl, ?_⟩) ?_
  rotate_left
  · intro w hSw; (try dsimp only at hSw); go_simp; try (with_reducible rfl)
  try simp only [Act.put, nz1, nz2, nz3]
  refine tkH (v := undef) 2 ⟨some 63, _, _, _, _, _⟩ rfl (Or.inr ⟨by rfl, rfl⟩) ?_
  try simp only [Act.put, nz1, nz2, nz3]
  refine tkH (v := undef) 3 ⟨some 64, _, _, _, _, _⟩ rfl (Or.inr ⟨by rfl, rfl⟩) ?_
  try simp only [Act.put, nz1, nz2, nz3]
  refine tkH (v := undef) 4 ⟨some 65, _, _, _, _, _⟩ rfl (Or.inr ⟨by rfl, rfl⟩) ?_
  try simp only [Act.put, nz1, nz2, nz3]
  refine tkH (v := undef) 5 ⟨some 66, _, _, _, _, _⟩ rfl (Or.inr ⟨by rfl, rfl⟩) ?_
  try simp only [Act.put, nz1, nz2, nz3]
  refine tkH (v := undef) 6 ⟨some 67, _, _, _, _, _⟩ rfl (Or.inr ⟨by rfl, rfl⟩) ?_
  try simp only [Act.put, nz1, nz2, nz3]
  refine tkH (v := ?_) 7 ⟨some 68, _, _, _, _, _⟩ rfl (Or.inl ⟨by rfl, ?_⟩) ?_
  rotate_left
  · intro w hSw; (try dsimp only at hSw); go_simp; try (with_reducible rfl)
  try simp only [Act.put, nz1, nz2, nz3]
  refine tkH (v := ?_) 8 ⟨some 69, _, _, _, _, _⟩ rfl (Or.inl ⟨by rfl, ?_⟩) ?_
  rotate_left
  · intro w hSw; (try dsimp only at hSw); go_simp; try (with_reducible rfl)
  try simp only [Act.put, nz1, nz2, nz3]
  refine tkH (v := undef) 9 ⟨some 70, _, _, _, _, _⟩ rfl (Or.inr ⟨by rfl, rfl⟩) ?_
  try simp only [Act.put, nz1, nz2, nz3]
  refine tkH (v := undef) 10 ⟨some 71, _, _, _, _, _⟩ rfl (Or.inr ⟨by rfl, rfl⟩) ?_
  try simp only [Act.put, nz1, nz2, nz3]
  refine tkH (v := undef) 11 ⟨some 72, _, _, _, _, _⟩ rfl (Or.inr ⟨by rfl, rfl⟩) ?_
  try simp only [Act.put, nz1, nz2, nz3]
  refine tkH (v := undef) 12 ⟨some 73, _, _, _, _, _⟩ rfl (Or.inr ⟨by rfl, rfl⟩) ?_
  try simp only [Act.put, nz1, nz2, nz3]
  refine tkH (v := undef) 13 ⟨some 74, _, _, _, _, _⟩ rfl (Or.inr ⟨by rfl, rfl⟩) ?_
  try simp only [Act.put, nz1, nz2, nz3]
  refine tkH (v := undef) 14 ⟨some 75, _, _, _, _, _⟩ rfl (Or.inr ⟨by rfl, rfl⟩) ?_
  try simp only [Act.put, nz1, nz2, nz3]
  refine tkH (v := undef) 15 ⟨some 76, _, _, _, _, _⟩ rfl (Or.inr ⟨by rfl, rfl⟩) ?_
  try simp only [Act.put, nz1, nz2, nz3]
  refine tkH (v := undef) 16 ⟨some 77, _, _, _, _, _⟩ rfl (Or.inr ⟨by rfl, rfl⟩) ?_
  try simp only [Act.put, nz1, nz2, nz3]
  refine tkH (v := undef) 17 ⟨some 78, _, _, _, _, _⟩ rfl (Or.inr ⟨by rfl, rfl⟩) ?_
  try simp only [Act.put, nz1, nz2, nz3]
  refine tkH (v := undef) 18 ⟨some 79, _, _, _, _, _⟩ rfl (Or.inr ⟨by rfl, rfl⟩) ?_
  try simp only [Act.put, nz1, nz2, nz3]
  refine tkH (v := undef) 19 ⟨some 80, _, _, _, _, _⟩ rfl (Or.inr ⟨by rfl, rfl⟩) ?_
  try simp only [Act.put, nz1, nz2, nz3]
  refine tkH (v := ?_) 20 ⟨some 81, _, _, _, _, _⟩ rfl (Or.inl ⟨by rfl, ?_⟩) ?_
  rotate_left
  · intro w hSw; (try dsimp only at hSw); go_simp; try (with_reducible rfl)
  try simp only [Act.put, nz1, nz2, nz3]
  refine wpAnyH_done (by kernel_rfl) ?_ _
  go_upto_region 14 with fail
  replace hR := hR.drew
  replace hC := hC.trans (Chg.ofBelow (Below.refl _ _).drew)
  refine wp_region_held_drew (S := fun W' => RoundAt W' B C M n kv s) (by kernel_rfl) ?_ (fun hHeld => ?_)
  · exact hR
  refine tkH (v := ?_) 0 ⟨some 85, _, _, _, _, _⟩ rfl (Or.inl ⟨by rfl, ?_⟩) ?_
  rotate_left
  · intro w hSw; (try dsimp only at hSw); go_simp; try (with_reducible rfl)
  try simp only [Act.put, nz1, nz2, nz3]
  refine tkH (v := ?_) 1 ⟨some 86, _, _, _, _, _⟩ rfl (Or.inl ⟨by rfl, ?_⟩) ?_
  rotate_left
  · intro w hSw; (try dsimp only at hSw); go_simp; try (with_reducible rfl)
  try simp only [Act.put, nz1, nz2, nz3]
  refine tkH (v := ?_) 2 ⟨some 87, _, _, _, _, _⟩ rfl (Or.inl ⟨by rfl, ?_⟩) ?_
  rotate_left
  · intro w hSw; (try dsimp only at hSw); go_simp; try (with_reducible rfl)
  try simp only [Act.put, nz1, nz2, nz3]
  refine tkH (v := (.int .i64 s.step)) 3 ⟨some 88, _, _, _, _, _⟩ rfl (yields_one (by rfl) 3 _ rfl ⟨B, 4, none⟩ rfl _ _ (fun W' hS => hS.cell (i := 4) (by omega)) Try.underlying3 rfl) ?_
  try simp only [Act.put, nz1, nz2, nz3]
  refine tkH (v := ?_) 4 ⟨some 89, _, _, _, _, _⟩ rfl (Or.inl ⟨by rfl, ?_⟩) ?_
  rotate_left
  · intro w hSw; (try dsimp only at hSw); go_simp; try (with_reducible rfl)
  try simp only [Act.put, nz1, nz2, nz3]
  refine tkH (v := ?_) 5 ⟨some 90, _, _, _, _, _⟩ rfl (Or.inl ⟨by rfl, ?_⟩) ?_
  rotate_left
  · intro w hSw; (try dsimp only at hSw); go_simp; try (with_reducible rfl)
  try simp only [Act.put, nz1, nz2, nz3]
  refine tkH (v := undef) 6 ⟨some 91, _, _, _, _, _⟩ rfl (Or.inr ⟨by rfl, rfl⟩) ?_
  try simp only [Act.put, nz1, nz2, nz3]
  refine tkH (v := undef) 7 ⟨some 92, _, _, _, _, _⟩ rfl (Or.inr ⟨by rfl, rfl⟩) ?_
  try simp only [Act.put, nz1, nz2, nz3]
  refine tkH (v := undef) 8 ⟨some 93, _, _, _, _, _⟩ rfl (Or.inr ⟨by rfl, rfl⟩) ?_
  try simp only [Act.put, nz1, nz2, nz3]
  refine tkH (v := undef) 9 ⟨some 94, _, _, _, _, _⟩ rfl (Or.inr ⟨by rfl, rfl⟩) ?_
  try simp only [Act.put, nz1, nz2, nz3]
  refine tkH (v := undef) 10 ⟨some 95, _, _, _, _, _⟩ rfl (Or.inr ⟨by rfl, rfl⟩) ?_
  try simp only [Act.put, nz1, nz2, nz3]
  refine tkH (v := undef) 11 ⟨some 96, _, _, _, _, _⟩ rfl (Or.inr ⟨by rfl, rfl⟩) ?_
  try simp only [Act.put, nz1, nz2, nz3]
  refine tkH (v := undef) 12 ⟨some 97, _, _, _, _, _⟩ rfl (Or.inr ⟨by rfl, rfl⟩) ?_
  try simp only [Act.put, nz1, nz2, nz3]
  refine tkH (v := undef) 13 ⟨some 98, _, _, _, _, _⟩ rfl (Or.inr ⟨by rfl, rfl⟩) ?_
  try simp only [Act.put, nz1, nz2, nz3]
  refine tkH (v := undef) 14 ⟨some 99, _, _, _, _, _⟩ rfl (Or.inr ⟨by rfl, rfl⟩) ?_
  try simp only [Act.put, nz1, nz2, nz3]
  refine tkH (v := undef) 15 ⟨some 100, _, _, _, _, _⟩ rfl (Or.inr ⟨by rfl, rfl⟩) ?_
  try simp only [Act.put, nz1, nz2, nz3]
  refine tkH (v := undef) 16 ⟨some 101, _, _, _, _, _⟩ rfl (Or.inr ⟨by rfl, rfl⟩) ?_
  try simp only [Act.put, nz1, nz2, nz3]
  refine tkH (v := undef) 17 ⟨some 102, _, _, _, _, _⟩ rfl (Or.inr ⟨by rfl, rfl⟩) ?_
  try simp only [Act.put, nz1, nz2, nz3]
  refine tkH (v := undef) 18 ⟨some 103, _, _, _, _, _⟩ rfl (Or.inr ⟨by rfl, rfl⟩) ?_
  try simp only [Act.put, nz1, nz2, nz3]
  refine tkH (v := undef) 19 ⟨some 104, _, _, _, _, _⟩ rfl (Or.inr ⟨by rfl, rfl⟩) ?_
  try simp only [Act.put, nz1, nz2, nz3]
  refine tkH (v := undef) 20 ⟨some 105, _, _, _, _, _⟩ rfl (Or.inr ⟨by rfl, rfl⟩) ?_
  try simp only [Act.put, nz1, nz2, nz3]
  refine tkH (v := undef) 21 ⟨some 106, _, _, _, _, _⟩ rfl (Or.inr ⟨by rfl, rfl⟩) ?_
  try simp only [Act.put, nz1, nz2, nz3]
  refine tkH (v := ?_) 22 ⟨some 107, _, _, _, _, _⟩ rfl (Or.inl ⟨by rfl, ?_⟩) ?_
  rotate_left
  · intro w hSw; (try dsimp only at hSw); go_simp; try (with_reducible rfl)
  try simp only [Act.put, nz1, nz2, nz3]
  refine wpAnyH_done (by kernel_rfl) ?_ _
  go_wp2_with fail
  go_ret2
  exact ⟨⟨_, by rw [HFIN.out]; rfl, by rw [HFIN.out]; exact ownA_nil _ _⟩, by rw [HFIN.out]; exact hR.mono (Nat.le_succ n), hC⟩
set_option maxRecDepth 100000 in
set_option maxHeartbeats 8000000 in
theorem next_none_few {W : World} {B C M n : Nat} {kv : Value} {s : RdS} (h : RoundAt W B C M n kv s) (hr : 0 ≤ s.round) (hn : n < maxLen) (hag : agreedS s = none) (hah : aheadO s.voters s.votes s.round = none) (hch : choiceS s = none) (hsu : sureS s s.round 0 = none) (hs1 : s.step = 1) (hfw : decide (need s.voters ≤ (forN s.voters s.votes s.round 0 nilId : Int)) = false) : Calls Try.prog 70 #[.pointer (some ⟨B, 0, none⟩)] W fun e w' => (∃ v, e = .returned (.tuple #[v, .bool (nextS s).isSome]) ∧ OwnA W.heap.size w' v (((nextS s).map (·.2)).getD [])) ∧ RoundAt w' B C M (n + 1) kv (((nextS s).map (·.1)).getD s) ∧ Chg W w' B M kv kv := by
  have HFIN : Hid (nextS s = none) := Lib.hid (by unfold nextS; have h0 : sure0 s = none := (by unfold sure0; rw [hsu]; split <;> rfl); have h1 : nilDue s = false := (by unfold nilDue; rw [hfw, decide_eq_true hs1]; rfl); rw [hag, hah, hch]; dsimp only; rw [h0]; dsimp only; rw [h1]; rfl)
  have hR := h
  have hC := Chg.refl W B M kv
  have HN := Lib.hid hn
  have HR0 := Lib.hid hr
  have HWR : Hid (wfi s.round) := Lib.hid (wfi_small (by omega) (by have := h.ok.round; omega))
  have HOK := Lib.hid h.ok
  have HS1 := Lib.hid hs1
  have HFW := Lib.hid hfw
  have HAG : Hid (∀ W', RoundAt W' B C M n kv s → Calls Try.prog 76 #[.pointer (some ⟨B, 0, none⟩)] W' fun e w' => e = .returned (.tuple #[.int .i64 0, idv zeroId, .bool false]) ∧ Below W'.heap.size W' w') := Lib.hid fun W' hR => by have := agreed_any hR; rwa [hag] at this
  have HAH : Hid (∀ W', RoundAt W' B C M n kv s → Calls Try.prog 28 #[.pointer (some ⟨C, 0, none⟩), .int .i64 s.round] W' fun e w' => e = .returned (.tuple #[.int .i64 0, .bool false]) ∧ Below W'.heap.size W' w') := Lib.hid fun W' hR => by have := ahead_any hR.cnt s.round HWR.out HOK.out.voters.2.1 HOK.out.voters.2.2; rwa [hah] at this
  have HCH : Hid (∀ W', RoundAt W' B C M n kv s → Calls Try.prog 77 #[.pointer (some ⟨B, 0, none⟩)] W' fun e w' => e = .returned (.tuple #[idv zeroId, .bool false]) ∧ Below W'.heap.size W' w') := Lib.hid fun W' hR => by have := choice_any hR; rwa [hch] at this
  have HSU : Hid (∀ W', RoundAt W' B C M n kv s → Calls Try.prog 78 #[.pointer (some ⟨B, 0, none⟩), .int .i64 s.round, .int .i64 0] W' fun e w' => e = .returned (.tuple #[idv (zeroId), .bool false]) ∧ Below W'.heap.size W' w') := Lib.hid fun W' hR => by have := sureR_any hR s.round 0 HWR.out (wfi_small (by omega) (by omega)); rwa [hsu] at this
  have HNI : Hid (∀ W', RoundAt W' B C M n kv s → Calls Try.prog 35 #[] W' fun e w' => e = .returned (idv nilId) ∧ Below W'.heap.size W' w') := Lib.hid fun W' hR => nil_any W'
  have HFO : Hid (∀ W', RoundAt W' B C M n kv s → Calls Try.prog 26 #[.pointer (some ⟨C, 0, none⟩), .int .i64 s.round, .int .i64 0, .agg (idC nilId)] W' fun e w' => e = .returned (.int .i64 (forN s.voters s.votes s.round 0 nilId : Int)) ∧ Below W'.heap.size W' w') := Lib.hid fun W' hR => for_any' hR.cnt s.round 0 nilId HWR.out (wfi_small (by omega) (by omega)) nilId_ok HOK.out.voters.2.1
  have HND : Hid (∀ W', RoundAt W' B C M n kv s → Calls Try.prog 19 #[.int .i64 (s.voters : Int)] W' fun e w' => e = .returned (.int .i64 (need s.voters)) ∧ Below W'.heap.size W' w') := Lib.hid fun W' hR => (need_any _ W').mono fun e w' ⟨h1, h2⟩ => ⟨h1, h2 ▸ Below.refl _ _⟩
  clear hag hah hch hsu hs1 hfw
  clear h hn hr
  go_enter Try.func70, Try.ntmps70
  go_upto_region 5 with (first
    | (go_at_call 76; refine (HAG.out _ hR).mono ?_; rintro e Wn ⟨rfl, hbn⟩; replace hR := hR.below hbn; replace hC := hC.trans (Chg.ofBelow hbn); clear hbn)
    | (guard_target = wpList _ _ _ (Oper.mk _ (.store 24 _ _) _ _ _ _ :: _) _ _; refine wpList_store_idv rfl _ _ rfl Wn.heap.size (zeroId) rfl rfl zeroId_ok 24 _ (Blk.newAt _ _ rfl rfl) rfl ?_; intro W3 hS3 hz3 hb3 hk3; have hbn := (((Below.refl _ Wn).alloc (Nat.le_refl _) _).trans hb3); clear hb3 hk3 hz3; replace hR := hR.below hbn; replace hC := hC.trans (Chg.ofBelow hbn); clear hbn; clear hS3))
  replace hR := hR.drew
  replace hC := hC.trans (Chg.ofBelow (Below.refl _ _).drew)
  refine wp_region_held_drew (S := fun W' => RoundAt W' B C M n kv s) (by kernel_rfl) ?_ (fun hHeld => ?_)
  · exact hR
  refine tkH (v := ?_) 0 ⟨some 28, _, _, _, _, _⟩ rfl (Or.inl ⟨by rfl, ?_⟩) ?_
  rotate_left
  · intro w hSw; (try dsimp only at hSw); go_simp; try (with_reducible rfl)
  try simp only [Act.put, nz1, nz2, nz3]
  refine tkH (v := ?_) 1 ⟨some 29, _, _, _, _, _⟩ rfl (Or.inl ⟨by rfl, ?_⟩) ?_
  rotate_left
  · intro w hSw; (try dsimp only at hSw); go_simp; try (with_reducible rfl)
  try simp only [Act.put, nz1, nz2, nz3]
  refine tkH (v := ?_) 2 ⟨some 30, _, _, _, _, _⟩ rfl (Or.inl ⟨by rfl, ?_⟩) ?_
  rotate_left
  · intro w hSw; (try dsimp only at hSw); go_simp; try (with_reducible rfl)
  try simp only [Act.put, nz1, nz2, nz3]
  refine tkH (v := (.pointer (some ⟨C, 0, none⟩))) 3 ⟨some 31, _, _, _, _, _⟩ rfl (yields_one (by rfl) 28 _ rfl ⟨B, 548, none⟩ rfl _ _ (fun W' hS => hS.cell (i := 548) (by omega)) Try.underlying28 rfl) ?_
  try simp only [Act.put, nz1, nz2, nz3]
  refine tkH (v := ?_) 4 ⟨some 32, _, _, _, _, _⟩ rfl (Or.inl ⟨by rfl, ?_⟩) ?_
  rotate_left
  · intro w hSw; (try dsimp only at hSw); go_simp; try (with_reducible rfl)
  try simp only [Act.put, nz1, nz2, nz3]
  refine tkH (v := ?_) 5 ⟨some 33, _, _, _, _, _⟩ rfl (Or.inl ⟨by rfl, ?_⟩) ?_
  rotate_left
  · intro w hSw; (try dsimp only at hSw); go_simp; try (with_reducible rfl)
  try simp only [Act.put, nz1, nz2, nz3]
  refine tkH (v := ?_) 6 ⟨some 34, _, _, _, _, _⟩ rfl (Or.inl ⟨by rfl, ?_⟩) ?_
  rotate_left
  · intro w hSw; (try dsimp only at hSw); go_simp; try (with_reducible rfl)
  try simp only [Act.put, nz1, nz2, nz3]
  refine tkH (v := (.int .i64 s.round)) 7 ⟨some 35, _, _, _, _, _⟩ rfl (yields_one (by rfl) 3 _ rfl ⟨B, 3, none⟩ rfl _ _ (fun W' hS => hS.cell (i := 3) (by omega)) Try.underlying3 rfl) ?_
  try simp only [Act.put, nz1, nz2, nz3]
  refine wpAnyH_ready (rs := [8]) (by kernel_rfl) (by simp) ?_
  refine (AllReadyH.cons (o := ⟨some 36, _, _, _, _, _⟩) rfl (fun K hK => ?_) AllReadyH.nil)
  (try rw [if_pos (by rfl)])
  go_simp
  refine (HAH.out _ hR).mono ?_
  rintro e Wn ⟨rfl, hbn⟩
  replace hR := hR.below hbn
  replace hC := hC.trans (Chg.ofBelow hbn)
  clear hbn
  try dsimp only
  refine hK.out _ _ (hR) (fun hHeld => ?_)
  clear hK K
  try simp only [Act.put, nz1, nz2, nz3]
  refine tkH (v := ?_) 9 ⟨some 27, _, _, _, _, _⟩ rfl (Or.inl ⟨by rfl, ?_⟩) ?_
  rotate_left
  · intro w hSw; (try dsimp only at hSw); go_simp; try (with_reducible rfl)
  try simp only [Act.put, nz1, nz2, nz3]
  refine tkH (v := ?_) 10 ⟨some 37, _, _, _, _, _⟩ rfl (Or.inl ⟨by rfl, ?_⟩) ?_
  rotate_left
  · intro w hSw; (try dsimp only at hSw); go_simp; try (with_reducible rfl)
  try simp only [Act.put, nz1, nz2, nz3]
  refine tkH (v := ?_) 11 ⟨some 38, _, _, _, _, _⟩ rfl (Or.inl ⟨by rfl, ?_⟩) ?_
  rotate_left
  · intro w hSw; (try dsimp only at hSw); go_simp; try (with_reducible rfl)
  try simp only [Act.put, nz1, nz2, nz3]
  refine tkH (v := ?_) 12 ⟨some 7, _, _, _, _, _⟩ rfl (Or.inl ⟨by rfl, ?_⟩) ?_
  rotate_left
  · intro w hSw; (try dsimp only at hSw); go_simp; try (with_reducible rfl)
  try simp only [Act.put, nz1, nz2, nz3]
  refine tkH (v := ?_) 13 ⟨some 8, _, _, _, _, _⟩ rfl (Or.inl ⟨by rfl, ?_⟩) ?_
  rotate_left
  · intro w hSw; (try dsimp only at hSw); go_simp; try (with_reducible rfl)
  try simp only [Act.put, nz1, nz2, nz3]
  refine wpAnyH_done (by kernel_rfl) ?_ _
  go_upto_region 11 with (first
    | (go_at_call 77; refine (HCH.out _ hR).mono ?_; rintro e Wn ⟨rfl, hbn⟩; replace hR := hR.below hbn; replace hC := hC.trans (Chg.ofBelow hbn); clear hbn)
    | (guard_target = wpList _ _ _ (Oper.mk _ (.store 24 _ _) _ _ _ _ :: _) _ _; refine wpList_store_idv rfl _ _ rfl Wn.heap.size (zeroId) rfl rfl zeroId_ok 24 _ (Blk.newAt _ _ rfl rfl) rfl ?_; intro W3 hS3 hz3 hb3 hk3; have hbn := (((Below.refl _ Wn).alloc (Nat.le_refl _) _).trans hb3); clear hb3 hk3 hz3; replace hR := hR.below hbn; replace hC := hC.trans (Chg.ofBelow hbn); clear hbn; clear hS3))
  have c3 := hR.cell (i := 3) (by omega)
  change _ = some (Value.int IntKind.i64 s.round) at c3
  go_upto_region 12 with (first
    | (go_at_call 78; refine (HSU.out _ hR).mono ?_; rintro e Wn ⟨rfl, hbn⟩; replace hR := hR.below hbn; replace hC := hC.trans (Chg.ofBelow hbn); clear hbn)
    | (guard_target = wpList _ _ _ (Oper.mk _ (.store 24 _ _) _ _ _ _ :: _) _ _; refine wpList_store_idv rfl _ _ rfl Wn.heap.size (zeroId) rfl rfl zeroId_ok 24 _ (Blk.newAt _ _ rfl rfl) rfl ?_; intro W3 hS3 hz3 hb3 hk3; have hbn := (((Below.refl _ Wn).alloc (Nat.le_refl _) _).trans hb3); clear hb3 hk3 hz3; replace hR := hR.below hbn; replace hC := hC.trans (Chg.ofBelow hbn); clear hbn; clear hS3))
  clear c3
  replace hR := hR.drew
  replace hC := hC.trans (Chg.ofBelow (Below.refl _ _).drew)
  refine wp_region_held_drew (S := fun W' => RoundAt W' B C M n kv s) (by kernel_rfl) ?_ (fun hHeld => ?_)
  · exact hR
  refine tkH (v := ?_) 0 ⟨some 61, _, _, _, _, _⟩ rfl (Or.inl ⟨by rfl, ?_⟩) ?_
  rotate_left
  · intro w hSw; (try dsimp only at hSw); go_simp; try (with_reducible rfl)
  try simp only [Act.put, nz1, nz2, nz3]
  refine tkH (v := ?_) 1 ⟨some 62, _, _, _, _, _⟩ rfl (Or.inl ⟨by rfl, ?_⟩) ?_
  rotate_left
  · intro w hSw; (try dsimp only at hSw); go_simp; try (with_reducible rfl)
  try simp only [Act.put, nz1, nz2, nz3]
  refine tkH (v := undef) 2 ⟨some 63, _, _, _, _, _⟩ rfl (Or.inr ⟨by rfl, rfl⟩) ?_
  try simp only [Act.put, nz1, nz2, nz3]
  refine tkH (v := undef) 3 ⟨some 64, _, _, _, _, _⟩ rfl (Or.inr ⟨by rfl, rfl⟩) ?_
  try simp only [Act.put, nz1, nz2, nz3]
  refine tkH (v := undef) 4 ⟨some 65, _, _, _, _, _⟩ rfl (Or.inr ⟨by rfl, rfl⟩) ?_
  try simp only [Act.put, nz1, nz2, nz3]
  refine tkH (v := undef) 5 ⟨some 66, _, _, _, _, _⟩ rfl (Or.inr ⟨by rfl, rfl⟩) ?_
  try simp only [Act.put, nz1, nz2, nz3]
  refine tkH (v := undef) 6 ⟨some 67, _, _, _, _, _⟩ rfl (Or.inr ⟨by rfl, rfl⟩) ?_
  try simp only [Act.put, nz1, nz2, nz3]
  refine tkH (v := ?_) 7 ⟨some 68, _, _, _, _, _⟩ rfl (Or.inl ⟨by rfl, ?_⟩) ?_
  rotate_left
  · intro w hSw; (try dsimp only at hSw); go_simp; try (with_reducible rfl)
  try simp only [Act.put, nz1, nz2, nz3]
  refine tkH (v := ?_) 8 ⟨some 69, _, _, _, _, _⟩ rfl (Or.inl ⟨by rfl, ?_⟩) ?_
  rotate_left
  · intro w hSw; (try dsimp only at hSw); go_simp; try (with_reducible rfl)
  try simp only [Act.put, nz1, nz2, nz3]
  refine tkH (v := undef) 9 ⟨some 70, _, _, _, _, _⟩ rfl (Or.inr ⟨by rfl, rfl⟩) ?_
  try simp only [Act.put, nz1, nz2, nz3]
  refine tkH (v := undef) 10 ⟨some 71, _, _, _, _, _⟩ rfl (Or.inr ⟨by rfl, rfl⟩) ?_
  try simp only [Act.put, nz1, nz2, nz3]
  refine tkH (v := undef) 11 ⟨some 72, _, _, _, _, _⟩ rfl (Or.inr ⟨by rfl, rfl⟩) ?_
  try simp only [Act.put, nz1, nz2, nz3]
  refine tkH (v := undef) 12 ⟨some 73, _, _, _, _, _⟩ rfl (Or.inr ⟨by rfl, rfl⟩) ?_
  try simp only [Act.put, nz1, nz2, nz3]
  refine tkH (v := undef) 13 ⟨some 74, _, _, _, _, _⟩ rfl (Or.inr ⟨by rfl, rfl⟩) ?_
  try simp only [Act.put, nz1, nz2, nz3]
  refine tkH (v := undef) 14 ⟨some 75, _, _, _, _, _⟩ rfl (Or.inr ⟨by rfl, rfl⟩) ?_
  try simp only [Act.put, nz1, nz2, nz3]
  refine tkH (v := undef) 15 ⟨some 76, _, _, _, _, _⟩ rfl (Or.inr ⟨by rfl, rfl⟩) ?_
  try simp only [Act.put, nz1, nz2, nz3]
  refine tkH (v := undef) 16 ⟨some 77, _, _, _, _, _⟩ rfl (Or.inr ⟨by rfl, rfl⟩) ?_
  try simp only [Act.put, nz1, nz2, nz3]
  refine tkH (v := undef) 17 ⟨some 78, _, _, _, _, _⟩ rfl (Or.inr ⟨by rfl, rfl⟩) ?_
  try simp only [Act.put, nz1, nz2, nz3]
  refine tkH (v := undef) 18 ⟨some 79, _, _, _, _, _⟩ rfl (Or.inr ⟨by rfl, rfl⟩) ?_
  try simp only [Act.put, nz1, nz2, nz3]
  refine tkH (v := undef) 19 ⟨some 80, _, _, _, _, _⟩ rfl (Or.inr ⟨by rfl, rfl⟩) ?_
  try simp only [Act.put, nz1, nz2, nz3]
  refine tkH (v := ?_) 20 ⟨some 81, _, _, _, _, _⟩ rfl (Or.inl ⟨by rfl, ?_⟩) ?_
  rotate_left
  · intro w hSw; (try dsimp only at hSw); go_simp; try (with_reducible rfl)
  try simp only [Act.put, nz1, nz2, nz3]
  refine wpAnyH_done (by kernel_rfl) ?_ _
  go_upto_region 14 with fail
  replace hR := hR.drew
  replace hC := hC.trans (Chg.ofBelow (Below.refl _ _).drew)
  refine wp_region_held_drew (S := fun W' => RoundAt W' B C M n kv s) (by kernel_rfl) ?_ (fun hHeld => ?_)
  · exact hR
  refine tkH (v := ?_) 0 ⟨some 85, _, _, _, _, _⟩ rfl (Or.inl ⟨by rfl, ?_⟩) ?_
  rotate_left
  · intro w hSw; (try dsimp only at hSw); go_simp; try (with_reducible rfl)
  try simp only [Act.put, nz1, nz2, nz3]
  refine tkH (v := ?_) 1 ⟨some 86, _, _, _, _, _⟩ rfl (Or.inl ⟨by rfl, ?_⟩) ?_
  rotate_left
  · intro w hSw; (try dsimp only at hSw); go_simp; try (with_reducible rfl)
  try simp only [Act.put, nz1, nz2, nz3]
  refine tkH (v := ?_) 2 ⟨some 87, _, _, _, _, _⟩ rfl (Or.inl ⟨by rfl, ?_⟩) ?_
  rotate_left
  · intro w hSw; (try dsimp only at hSw); go_simp; try (with_reducible rfl)
  try simp only [Act.put, nz1, nz2, nz3]
  refine tkH (v := (.int .i64 1)) 3 ⟨some 88, _, _, _, _, _⟩ rfl (yields_one (by rfl) 3 _ rfl ⟨B, 4, none⟩ rfl _ _ (fun W' hS => by rw [hS.cell (i := 4) (by omega)]; show some (Value.int .i64 s.step) = _; rw [HS1.out]) Try.underlying3 rfl) ?_
  try simp only [Act.put, nz1, nz2, nz3]
  refine tkH (v := ?_) 4 ⟨some 89, _, _, _, _, _⟩ rfl (Or.inl ⟨by rfl, ?_⟩) ?_
  rotate_left
  · intro w hSw; (try dsimp only at hSw); go_simp; try (with_reducible rfl)
  try simp only [Act.put, nz1, nz2, nz3]
  refine tkH (v := ?_) 5 ⟨some 90, _, _, _, _, _⟩ rfl (Or.inl ⟨by rfl, ?_⟩) ?_
  rotate_left
  · intro w hSw; (try dsimp only at hSw); go_simp; try (with_reducible rfl)
  try simp only [Act.put, nz1, nz2, nz3]
  refine tkH (v := ?_) 6 ⟨some 91, _, _, _, _, _⟩ rfl (Or.inl ⟨by rfl, ?_⟩) ?_
  rotate_left
  · intro w hSw; (try dsimp only at hSw); go_simp; try (with_reducible rfl)
  try simp only [Act.put, nz1, nz2, nz3]
  refine tkH (v := ?_) 7 ⟨some 92, _, _, _, _, _⟩ rfl (Or.inl ⟨by rfl, ?_⟩) ?_
  rotate_left
  · intro w hSw; (try dsimp only at hSw); go_simp; try (with_reducible rfl)
  try simp only [Act.put, nz1, nz2, nz3]
  refine tkH (v := ?_) 8 ⟨some 93, _, _, _, _, _⟩ rfl (Or.inl ⟨by rfl, ?_⟩) ?_
  rotate_left
  · intro w hSw; (try dsimp only at hSw); go_simp; try (with_reducible rfl)
  try simp only [Act.put, nz1, nz2, nz3]
  refine tkH (v := (.pointer (some ⟨C, 0, none⟩))) 9 ⟨some 94, _, _, _, _, _⟩ rfl (yields_one (by rfl) 28 _ rfl ⟨B, 548, none⟩ rfl _ _ (fun W' hS => hS.cell (i := 548) (by omega)) Try.underlying28 rfl) ?_
  try simp only [Act.put, nz1, nz2, nz3]
  refine tkH (v := ?_) 10 ⟨some 95, _, _, _, _, _⟩ rfl (Or.inl ⟨by rfl, ?_⟩) ?_
  rotate_left
  · intro w hSw; (try dsimp only at hSw); go_simp; try (with_reducible rfl)
  try simp only [Act.put, nz1, nz2, nz3]
  refine tkH (v := ?_) 11 ⟨some 96, _, _, _, _, _⟩ rfl (Or.inl ⟨by rfl, ?_⟩) ?_
  rotate_left
  · intro w hSw; (try dsimp only at hSw); go_simp; try (with_reducible rfl)
  try simp only [Act.put, nz1, nz2, nz3]
  refine tkH (v := ?_) 12 ⟨some 97, _, _, _, _, _⟩ rfl (Or.inl ⟨by rfl, ?_⟩) ?_
  rotate_left
  · intro w hSw; (try dsimp only at hSw); go_simp; try (with_reducible rfl)
  try simp only [Act.put, nz1, nz2, nz3]
  refine tkH (v := (.int .i64 s.round)) 13 ⟨some 98, _, _, _, _, _⟩ rfl (yields_one (by rfl) 3 _ rfl ⟨B, 3, none⟩ rfl _ _ (fun W' hS => hS.cell (i := 3) (by omega)) Try.underlying3 rfl) ?_
  try simp only [Act.put, nz1, nz2, nz3]
  refine tkH (v := ?_) 16 ⟨some 101, _, _, _, _, _⟩ rfl (Or.inl ⟨by rfl, ?_⟩) ?_
  rotate_left
  · intro w hSw; (try dsimp only at hSw); go_simp; try (with_reducible rfl)
  try simp only [Act.put, nz1, nz2, nz3]
  refine tkH (v := ?_) 17 ⟨some 102, _, _, _, _, _⟩ rfl (Or.inl ⟨by rfl, ?_⟩) ?_
  rotate_left
  · intro w hSw; (try dsimp only at hSw); go_simp; try (with_reducible rfl)
  try simp only [Act.put, nz1, nz2, nz3]
  refine tkH (v := ?_) 18 ⟨some 103, _, _, _, _, _⟩ rfl (Or.inl ⟨by rfl, ?_⟩) ?_
  rotate_left
  · intro w hSw; (try dsimp only at hSw); go_simp; try (with_reducible rfl)
  try simp only [Act.put, nz1, nz2, nz3]
  refine tkH (v := (.int .i64 (s.voters : Int))) 19 ⟨some 104, _, _, _, _, _⟩ rfl (yields_one (by rfl) 3 _ rfl ⟨B, 0, none⟩ rfl _ _ (fun W' hS => hS.cell (i := 0) (by omega)) Try.underlying3 rfl) ?_
  try simp only [Act.put, nz1, nz2, nz3]
  refine wpAnyH_ready (rs := [14]) (by kernel_rfl) (by simp) ?_
  refine (AllReadyH.cons (o := ⟨some 99, _, _, _, _, _⟩) rfl (fun K hK => ?_) AllReadyH.nil)
  (try rw [if_pos (by rfl)])
  go_simp
  refine (HNI.out _ hR).mono ?_
  rintro e Wn ⟨rfl, hbn⟩
  replace hR := hR.below hbn
  replace hC := hC.trans (Chg.ofBelow hbn)
  clear hbn
  try dsimp only
  refine hK.out _ _ (hR) (fun hHeld => ?_)
  clear hK K
  try simp only [Act.put, nz1, nz2, nz3]
  refine wpAnyH_ready (rs := [15]) (by kernel_rfl) (by simp) ?_
  refine (AllReadyH.cons (o := ⟨some 100, _, _, _, _, _⟩) rfl (fun K hK => ?_) AllReadyH.nil)
  (try rw [if_pos (by rfl)])
  go_simp
  refine (HFO.out _ hR).mono ?_
  rintro e Wn ⟨rfl, hbn⟩
  replace hR := hR.below hbn
  replace hC := hC.trans (Chg.ofBelow hbn)
  clear hbn
  try dsimp only
  refine hK.out _ _ (hR) (fun hHeld => ?_)
  clear hK K
  try simp only [Act.put, nz1, nz2, nz3]
  refine wpAnyH_ready (rs := [20]) (by kernel_rfl) (by simp) ?_
  refine (AllReadyH.cons (o := ⟨some 105, _, _, _, _, _⟩) rfl (fun K hK => ?_) AllReadyH.nil)
  (try rw [if_pos (by rfl)])
  go_simp
  refine (HND.out _ hR).mono ?_
  rintro e Wn ⟨rfl, hbn⟩
  replace hR := hR.below hbn
  replace hC := hC.trans (Chg.ofBelow hbn)
  clear hbn
  try dsimp only
  refine hK.out _ _ (hR) (fun hHeld => ?_)
  clear hK K
  try simp only [Act.put, nz1, nz2, nz3]
  refine tkH (v := (.bool false)) 21 ⟨some 106, _, _, _, _, _⟩ rfl (yields_binR (by rfl) .geq 3 _ _ _ rfl (.int .i64 (forN s.voters s.votes s.round 0 nilId : Int)) (.int .i64 (need s.voters)) rfl rfl _ (fun w => by rfl) (fun w => int_geq _ _ _ HFW.out w)) ?_
  try simp only [Act.put, nz1, nz2, nz3]
  refine tkH (v := ?_) 22 ⟨some 107, _, _, _, _, _⟩ rfl (Or.inl ⟨by rfl, ?_⟩) ?_
  rotate_left
  · intro w hSw; (try dsimp only at hSw); go_simp; try (with_reducible rfl)
  try simp only [Act.put, nz1, nz2, nz3]
  refine wpAnyH_done (by kernel_rfl) ?_ _
  go_wp2_with fail
  go_ret2
  exact ⟨⟨_, by rw [HFIN.out]; rfl, by rw [HFIN.out]; exact ownA_nil _ _⟩, by rw [HFIN.out]; exact hR.mono (Nat.le_succ n), hC⟩
set_option maxRecDepth 100000 in
set_option maxHeartbeats 8000000 in
theorem next_none_many {W : World} {B C M n : Nat} {kv : Value} {s : RdS} (h : RoundAt W B C M n kv s) (hr : 0 ≤ s.round) (hn : n < maxLen) (hag : agreedS s = none) (hah : aheadO s.voters s.votes s.round = none) (hch : choiceS s = none) (hsu : sureS s s.round 0 = none) (hs1 : s.step = 1) (hfw : decide (need s.voters ≤ (forN s.voters s.votes s.round 0 nilId : Int)) = true) : Calls Try.prog 70 #[.pointer (some ⟨B, 0, none⟩)] W fun e w' => (∃ v, e = .returned (.tuple #[v, .bool (nextS s).isSome]) ∧ OwnA W.heap.size w' v (((nextS s).map (·.2)).getD [])) ∧ RoundAt w' B C M (n + 1) kv (((nextS s).map (·.1)).getD s) ∧ Chg W w' B M kv kv := by
  have HFIN : Hid (nextS s = some (castS s 1 nilId, castA s 1 nilId)) := Lib.hid (by unfold nextS; have h0 : sure0 s = none := (by unfold sure0; rw [hsu]; split <;> rfl); have h1 : nilDue s = true := (by unfold nilDue; rw [hfw, decide_eq_true hs1]; rfl); rw [hag, hah, hch]; dsimp only; rw [h0]; dsimp only; rw [h1]; rfl)
  have hR := h
  have hC := Chg.refl W B M kv
  have HN := Lib.hid hn
  have HR0 := Lib.hid hr
  have HWR : Hid (wfi s.round) := Lib.hid (wfi_small (by omega) (by have := h.ok.round; omega))
  have HOK := Lib.hid h.ok
  have HS1 := Lib.hid hs1
  have HFW := Lib.hid hfw
  have HAG : Hid (∀ W', RoundAt W' B C M n kv s → Calls Try.prog 76 #[.pointer (some ⟨B, 0, none⟩)] W' fun e w' => e = .returned (.tuple #[.int .i64 0, idv zeroId, .bool false]) ∧ Below W'.heap.size W' w') := Lib.hid fun W' hR => by have := agreed_any hR; rwa [hag] at this
  have HAH : Hid (∀ W', RoundAt W' B C M n kv s → Calls Try.prog 28 #[.pointer (some ⟨C, 0, none⟩), .int .i64 s.round] W' fun e w' => e = .returned (.tuple #[.int .i64 0, .bool false]) ∧ Below W'.heap.size W' w') := Lib.hid fun W' hR => by have := ahead_any hR.cnt s.round HWR.out HOK.out.voters.2.1 HOK.out.voters.2.2; rwa [hah] at this
  have HCH : Hid (∀ W', RoundAt W' B C M n kv s → Calls Try.prog 77 #[.pointer (some ⟨B, 0, none⟩)] W' fun e w' => e = .returned (.tuple #[idv zeroId, .bool false]) ∧ Below W'.heap.size W' w') := Lib.hid fun W' hR => by have := choice_any hR; rwa [hch] at this
  have HSU : Hid (∀ W', RoundAt W' B C M n kv s → Calls Try.prog 78 #[.pointer (some ⟨B, 0, none⟩), .int .i64 s.round, .int .i64 0] W' fun e w' => e = .returned (.tuple #[idv (zeroId), .bool false]) ∧ Below W'.heap.size W' w') := Lib.hid fun W' hR => by have := sureR_any hR s.round 0 HWR.out (wfi_small (by omega) (by omega)); rwa [hsu] at this
  have HNI : Hid (∀ W', RoundAt W' B C M n kv s → Calls Try.prog 35 #[] W' fun e w' => e = .returned (idv nilId) ∧ Below W'.heap.size W' w') := Lib.hid fun W' hR => nil_any W'
  have HFO : Hid (∀ W', RoundAt W' B C M n kv s → Calls Try.prog 26 #[.pointer (some ⟨C, 0, none⟩), .int .i64 s.round, .int .i64 0, .agg (idC nilId)] W' fun e w' => e = .returned (.int .i64 (forN s.voters s.votes s.round 0 nilId : Int)) ∧ Below W'.heap.size W' w') := Lib.hid fun W' hR => for_any' hR.cnt s.round 0 nilId HWR.out (wfi_small (by omega) (by omega)) nilId_ok HOK.out.voters.2.1
  have HND : Hid (∀ W', RoundAt W' B C M n kv s → Calls Try.prog 19 #[.int .i64 (s.voters : Int)] W' fun e w' => e = .returned (.int .i64 (need s.voters)) ∧ Below W'.heap.size W' w') := Lib.hid fun W' hR => (need_any _ W').mono fun e w' ⟨h1, h2⟩ => ⟨h1, h2 ▸ Below.refl _ _⟩
  clear hag hah hch hsu hs1 hfw
  clear h hn hr
  go_enter Try.func70, Try.ntmps70
  go_upto_region 5 with (first
    | (go_at_call 76; refine (HAG.out _ hR).mono ?_; rintro e Wn ⟨rfl, hbn⟩; replace hR := hR.below hbn; replace hC := hC.trans (Chg.ofBelow hbn); clear hbn)
    | (guard_target = wpList _ _ _ (Oper.mk _ (.store 24 _ _) _ _ _ _ :: _) _ _; refine wpList_store_idv rfl _ _ rfl Wn.heap.size (zeroId) rfl rfl zeroId_ok 24 _ (Blk.newAt _ _ rfl rfl) rfl ?_; intro W3 hS3 hz3 hb3 hk3; have hbn := (((Below.refl _ Wn).alloc (Nat.le_refl _) _).trans hb3); clear hb3 hk3 hz3; replace hR := hR.below hbn; replace hC := hC.trans (Chg.ofBelow hbn); clear hbn; clear hS3))
  replace hR := hR.drew
  replace hC := hC.trans (Chg.ofBelow (Below.refl _ _).drew)
  refine wp_region_held_drew (S := fun W' => RoundAt W' B C M n kv s) (by kernel_rfl) ?_ (fun hHeld => ?_)
  · exact hR
  refine tkH (v := ?_) 0 ⟨some 28, _, _, _, _, _⟩ rfl (Or.inl ⟨by rfl, ?_⟩) ?_
  rotate_left
  · intro w hSw; (try dsimp only at hSw); go_simp; try (with_reducible rfl)
  try simp only [Act.put, nz1, nz2, nz3]
  refine tkH (v := ?_) 1 ⟨some 29, _, _, _, _, _⟩ rfl (Or.inl ⟨by rfl, ?_⟩) ?_
  rotate_left
  · intro w hSw; (try dsimp only at hSw); go_simp; try (with_reducible rfl)
  try simp only [Act.put, nz1, nz2, nz3]
  refine tkH (v := ?_) 2 ⟨some 30, _, _, _, _, _⟩ rfl (Or.inl ⟨by rfl, ?_⟩) ?_
  rotate_left
  · intro w hSw; (try dsimp only at hSw); go_simp; try (with_reducible rfl)
  try simp only [Act.put, nz1, nz2, nz3]
  refine tkH (v := (.pointer (some ⟨C, 0, none⟩))) 3 ⟨some 31, _, _, _, _, _⟩ rfl (yields_one (by rfl) 28 _ rfl ⟨B, 548, none⟩ rfl _ _ (fun W' hS => hS.cell (i := 548) (by omega)) Try.underlying28 rfl) ?_
  try simp only [Act.put, nz1, nz2, nz3]
  refine tkH (v := ?_) 4 ⟨some 32, _, _, _, _, _⟩ rfl (Or.inl ⟨by rfl, ?_⟩) ?_
  rotate_left
  · intro w hSw; (try dsimp only at hSw); go_simp; try (with_reducible rfl)
  try simp only [Act.put, nz1, nz2, nz3]
  refine tkH (v := ?_) 5 ⟨some 33, _, _, _, _, _⟩ rfl (Or.inl ⟨by rfl, ?_⟩) ?_
  rotate_left
  · intro w hSw; (try dsimp only at hSw); go_simp; try (with_reducible rfl)
  try simp only [Act.put, nz1, nz2, nz3]
  refine tkH (v := ?_) 6 ⟨some 34, _, _, _, _, _⟩ rfl (Or.inl ⟨by rfl, ?_⟩) ?_
  rotate_left
  · intro w hSw; (try dsimp only at hSw); go_simp; try (with_reducible rfl)
  try simp only [Act.put, nz1, nz2, nz3]
  refine tkH (v := (.int .i64 s.round)) 7 ⟨some 35, _, _, _, _, _⟩ rfl (yields_one (by rfl) 3 _ rfl ⟨B, 3, none⟩ rfl _ _ (fun W' hS => hS.cell (i := 3) (by omega)) Try.underlying3 rfl) ?_
  try simp only [Act.put, nz1, nz2, nz3]
  refine wpAnyH_ready (rs := [8]) (by kernel_rfl) (by simp) ?_
  refine (AllReadyH.cons (o := ⟨some 36, _, _, _, _, _⟩) rfl (fun K hK => ?_) AllReadyH.nil)
  (try rw [if_pos (by rfl)])
  go_simp
  refine (HAH.out _ hR).mono ?_
  rintro e Wn ⟨rfl, hbn⟩
  replace hR := hR.below hbn
  replace hC := hC.trans (Chg.ofBelow hbn)
  clear hbn
  try dsimp only
  refine hK.out _ _ (hR) (fun hHeld => ?_)
  clear hK K
  try simp only [Act.put, nz1, nz2, nz3]
  refine tkH (v := ?_) 9 ⟨some 27, _, _, _, _, _⟩ rfl (Or.inl ⟨by rfl, ?_⟩) ?_
  rotate_left
  · intro w hSw; (try dsimp only at hSw); go_simp; try (with_reducible rfl)
  try simp only [Act.put, nz1, nz2, nz3]
  refine tkH (v := ?_) 10 ⟨some 37, _, _, _, _, _⟩ rfl (Or.inl ⟨by rfl, ?_⟩) ?_
  rotate_left
  · intro w hSw; (try dsimp only at hSw); go_simp; try (with_reducible rfl)
  try simp only [Act.put, nz1, nz2, nz3]
  refine tkH (v := ?_) 11 ⟨some 38, _, _, _, _, _⟩ rfl (Or.inl ⟨by rfl, ?_⟩) ?_
  rotate_left
  · intro w hSw; (try dsimp only at hSw); go_simp; try (with_reducible rfl)
  try simp only [Act.put, nz1, nz2, nz3]
  refine tkH (v := ?_) 12 ⟨some 7, _, _, _, _, _⟩ rfl (Or.inl ⟨by rfl, ?_⟩) ?_
  rotate_left
  · intro w hSw; (try dsimp only at hSw); go_simp; try (with_reducible rfl)
  try simp only [Act.put, nz1, nz2, nz3]
  refine tkH (v := ?_) 13 ⟨some 8, _, _, _, _, _⟩ rfl (Or.inl ⟨by rfl, ?_⟩) ?_
  rotate_left
  · intro w hSw; (try dsimp only at hSw); go_simp; try (with_reducible rfl)
  try simp only [Act.put, nz1, nz2, nz3]
  refine wpAnyH_done (by kernel_rfl) ?_ _
  go_upto_region 11 with (first
    | (go_at_call 77; refine (HCH.out _ hR).mono ?_; rintro e Wn ⟨rfl, hbn⟩; replace hR := hR.below hbn; replace hC := hC.trans (Chg.ofBelow hbn); clear hbn)
    | (guard_target = wpList _ _ _ (Oper.mk _ (.store 24 _ _) _ _ _ _ :: _) _ _; refine wpList_store_idv rfl _ _ rfl Wn.heap.size (zeroId) rfl rfl zeroId_ok 24 _ (Blk.newAt _ _ rfl rfl) rfl ?_; intro W3 hS3 hz3 hb3 hk3; have hbn := (((Below.refl _ Wn).alloc (Nat.le_refl _) _).trans hb3); clear hb3 hk3 hz3; replace hR := hR.below hbn; replace hC := hC.trans (Chg.ofBelow hbn); clear hbn; clear hS3))
  have c3 := hR.cell (i := 3) (by omega)
  change _ = some (Value.int IntKind.i64 s.round) at c3
  go_upto_region 12 with (first
    | (go_at_call 78; refine (HSU.out _ hR).mono ?_; rintro e Wn ⟨rfl, hbn⟩; replace hR := hR.below hbn; replace hC := hC.trans (Chg.ofBelow hbn); clear hbn)
    | (guard_target = wpList _ _ _ (Oper.mk _ (.store 24 _ _) _ _ _ _ :: _) _ _; refine wpList_store_idv rfl _ _ rfl Wn.heap.size (zeroId) rfl rfl zeroId_ok 24 _ (Blk.newAt _ _ rfl rfl) rfl ?_; intro W3 hS3 hz3 hb3 hk3; have hbn := (((Below.refl _ Wn).alloc (Nat.le_refl _) _).trans hb3); clear hb3 hk3 hz3; replace hR := hR.below hbn; replace hC := hC.trans (Chg.ofBelow hbn); clear hbn; clear hS3))
  clear c3
  replace hR := hR.drew
  replace hC := hC.trans (Chg.ofBelow (Below.refl _ _).drew)
  refine wp_region_held_drew (S := fun W' => RoundAt W' B C M n kv s) (by kernel_rfl) ?_ (fun hHeld => ?_)
  · exact hR
  refine tkH (v := ?_) 0 ⟨some 61, _, _, _, _, _⟩ rfl (Or.inl ⟨by rfl, ?_⟩) ?_
  rotate_left
  · intro w hSw; (try dsimp only at hSw); go_simp; try (with_reducible rfl)
  try simp only [Act.put, nz1, nz2, nz3]
  refine tkH (v := ?_) 1 ⟨some 62, _, _, _, _, _⟩ rfl (Or.inl ⟨by rfl, ?_⟩) ?_
  rotate_left
  · intro w hSw; (try dsimp only at hSw); go_simp; try (with_reducible rfl)
  try simp only [Act.put, nz1, nz2, nz3]
  refine tkH (v := undef) 2 ⟨some 63, _, _, _, _, _⟩ rfl (Or.inr ⟨by rfl, rfl⟩) ?_
  try simp only [Act.put, nz1, nz2, nz3]
  refine tkH (v := undef) 3 ⟨some 64, _, _, _, _, _⟩ rfl (Or.inr ⟨by rfl, rfl⟩) ?_
  try simp only [Act.put, nz1, nz2, nz3]
  refine tkH (v := undef) 4 ⟨some 65, _, _, _, _, _⟩ rfl (Or.inr ⟨by rfl, rfl⟩) ?_
  try simp only [Act.put, nz1, nz2, nz3]
  refine tkH (v := undef) 5 ⟨some 66, _, _, _, _, _⟩ rfl (Or.inr ⟨by rfl, rfl⟩) ?_
  try simp only [Act.put, nz1, nz2, nz3]
  refine tkH (v := undef) 6 ⟨some 67, _, _, _, _, _⟩ rfl (Or.inr ⟨by rfl, rfl⟩) ?_
  try simp only [Act.put, nz1, nz2, nz3]
  refine tkH (v := ?_) 7 ⟨some 68, _, _, _, _, _⟩ rfl (Or.inl ⟨by rfl, ?_⟩) ?_
  rotate_left
  · intro w hSw; (try dsimp only at hSw); go_simp; try (with_reducible rfl)
  try simp only [Act.put, nz1, nz2, nz3]
  refine tkH (v := ?_) 8 ⟨some 69, _, _, _, _, _⟩ rfl (Or.inl ⟨by rfl, ?_⟩) ?_
  rotate_left
  · intro w hSw; (try dsimp only at hSw); go_simp; try (with_reducible rfl)
  try simp only [Act.put, nz1, nz2, nz3]
  refine tkH (v := undef) 9 ⟨some 70, _, _, _, _, _⟩ rfl (Or.inr ⟨by rfl, rfl⟩) ?_
  try simp only [Act.put, nz1, nz2, nz3]
  refine tkH (v := undef) 10 ⟨some 71, _, _, _, _, _⟩ rfl (Or.inr ⟨by rfl, rfl⟩) ?_
  try simp only [Act.put, nz1, nz2, nz3]
  refine tkH (v := undef) 11 ⟨some 72, _, _, _, _, _⟩ rfl (Or.inr ⟨by rfl, rfl⟩) ?_
  try simp only [Act.put, nz1, nz2, nz3]
  refine tkH (v := undef) 12 ⟨some 73, _, _, _, _, _⟩ rfl (Or.inr ⟨by rfl, rfl⟩) ?_
  try simp only [Act.put, nz1, nz2, nz3]
  refine tkH (v := undef) 13 ⟨some 74, _, _, _, _, _⟩ rfl (Or.inr ⟨by rfl, rfl⟩) ?_
  try simp only [Act.put, nz1, nz2, nz3]
  refine tkH (v := undef) 14 ⟨some 75, _, _, _, _, _⟩ rfl (Or.inr ⟨by rfl, rfl⟩) ?_
  try simp only [Act.put, nz1, nz2, nz3]
  refine tkH (v := undef) 15 ⟨some 76, _, _, _, _, _⟩ rfl (Or.inr ⟨by rfl, rfl⟩) ?_
  try simp only [Act.put, nz1, nz2, nz3]
  refine tkH (v := undef) 16 ⟨some 77, _, _, _, _, _⟩ rfl (Or.inr ⟨by rfl, rfl⟩) ?_
  try simp only [Act.put, nz1, nz2, nz3]
  refine tkH (v := undef) 17 ⟨some 78, _, _, _, _, _⟩ rfl (Or.inr ⟨by rfl, rfl⟩) ?_
  try simp only [Act.put, nz1, nz2, nz3]
  refine tkH (v := undef) 18 ⟨some 79, _, _, _, _, _⟩ rfl (Or.inr ⟨by rfl, rfl⟩) ?_
  try simp only [Act.put, nz1, nz2, nz3]
  refine tkH (v := undef) 19 ⟨some 80, _, _, _, _, _⟩ rfl (Or.inr ⟨by rfl, rfl⟩) ?_
  try simp only [Act.put, nz1, nz2, nz3]
  refine tkH (v := ?_) 20 ⟨some 81, _, _, _, _, _⟩ rfl (Or.inl ⟨by rfl, ?_⟩) ?_
  rotate_left
  · intro w hSw; (try dsimp only at hSw); go_simp; try (with_reducible rfl)
  try simp only [Act.put, nz1, nz2, nz3]
  refine wpAnyH_done (by kernel_rfl) ?_ _
  go_upto_region 14 with fail
  replace hR := hR.drew
  replace hC := hC.trans (Chg.ofBelow (Below.refl _ _).drew)
  refine wp_region_held_drew (S := fun W' => RoundAt W' B C M n kv s) (by kernel_rfl) ?_ (fun hHeld => ?_)
  · exact hR
  refine tkH (v := ?_) 0 ⟨some 85, _, _, _, _, _⟩ rfl (Or.inl ⟨by rfl, ?_⟩) ?_
  rotate_left
  · intro w hSw; (try dsimp only at hSw); go_simp; try (with_reducible rfl)
  try simp only [Act.put, nz1, nz2, nz3]
  refine tkH (v := ?_) 1 ⟨some 86, _, _, _, _, _⟩ rfl (Or.inl ⟨by rfl, ?_⟩) ?_
  rotate_left
  · intro w hSw; (try dsimp only at hSw); go_simp; try (with_reducible rfl)
  try simp only [Act.put, nz1, nz2, nz3]
  refine tkH (v := ?_) 2 ⟨some 87, _, _, _, _, _⟩ rfl (Or.inl ⟨by rfl, ?_⟩) ?_
  rotate_left
  · intro w hSw; (try dsimp only at hSw); go_simp; try (with_reducible rfl)
  try simp only [Act.put, nz1, nz2, nz3]
  refine tkH (v := (.int .i64 1)) 3 ⟨some 88, _, _, _, _, _⟩ rfl (yields_one (by rfl) 3 _ rfl ⟨B, 4, none⟩ rfl _ _ (fun W' hS => by rw [hS.cell (i := 4) (by omega)]; show some (Value.int .i64 s.step) = _; rw [HS1.out]) Try.underlying3 rfl) ?_
  try simp only [Act.put, nz1, nz2, nz3]
  refine tkH (v := ?_) 4 ⟨some 89, _, _, _, _, _⟩ rfl (Or.inl ⟨by rfl, ?_⟩) ?_
  rotate_left
  · intro w hSw; (try dsimp only at hSw); go_simp; try (with_reducible rfl)
  try simp only [Act.put, nz1, nz2, nz3]
  refine tkH (v := ?_) 5 ⟨some 90, _, _, _, _, _⟩ rfl (Or.inl ⟨by rfl, ?_⟩) ?_
  rotate_left
  · intro w hSw; (try dsimp only at hSw); go_simp; try (with_reducible rfl)
  try simp only [Act.put, nz1, nz2, nz3]
  refine tkH (v := ?_) 6 ⟨some 91, _, _, _, _, _⟩ rfl (Or.inl ⟨by rfl, ?_⟩) ?_
  rotate_left
  · intro w hSw; (try dsimp only at hSw); go_simp; try (with_reducible rfl)
  try simp only [Act.put, nz1, nz2, nz3]
  refine tkH (v := ?_) 7 ⟨some 92, _, _, _, _, _⟩ rfl (Or.inl ⟨by rfl, ?_⟩) ?_
  rotate_left
  · intro w hSw; (try dsimp only at hSw); go_simp; try (with_reducible rfl)
  try simp only [Act.put, nz1, nz2, nz3]
  refine tkH (v := ?_) 8 ⟨some 93, _, _, _, _, _⟩ rfl (Or.inl ⟨by rfl, ?_⟩) ?_
  rotate_left
  · intro w hSw; (try dsimp only at hSw); go_simp; try (with_reducible rfl)
  try simp only [Act.put, nz1, nz2, nz3]
  refine tkH (v := (.pointer (some ⟨C, 0, none⟩))) 9 ⟨some 94, _, _, _, _, _⟩ rfl (yields_one (by rfl) 28 _ rfl ⟨B, 548, none⟩ rfl _ _ (fun W' hS => hS.cell (i := 548) (by omega)) Try.underlying28 rfl) ?_
  try simp only [Act.put, nz1, nz2, nz3]
  refine tkH (v := ?_) 10 ⟨some 95, _, _, _, _, _⟩ rfl (Or.inl ⟨by rfl, ?_⟩) ?_
  rotate_left
  · intro w hSw; (try dsimp only at hSw); go_simp; try (with_reducible rfl)
  try simp only [Act.put, nz1, nz2, nz3]
  refine tkH (v := ?_) 11 ⟨some 96, _, _, _, _, _⟩ rfl (Or.inl ⟨by rfl, ?_⟩) ?_
  rotate_left
  · intro w hSw; (try dsimp only at hSw); go_simp; try (with_reducible rfl)
  try simp only [Act.put, nz1, nz2, nz3]
  refine tkH (v := ?_) 12 ⟨some 97, _, _, _, _, _⟩ rfl (Or.inl ⟨by rfl, ?_⟩) ?_
  rotate_left
  · intro w hSw; (try dsimp only at hSw); go_simp; try (with_reducible rfl)
  try simp only [Act.put, nz1, nz2, nz3]
  refine tkH (v := (.int .i64 s.round)) 13 ⟨some 98, _, _, _, _, _⟩ rfl (yields_one (by rfl) 3 _ rfl ⟨B, 3, none⟩ rfl _ _ (fun W' hS => hS.cell (i := 3) (by omega)) Try.underlying3 rfl) ?_
  try simp only [Act.put, nz1, nz2, nz3]
  refine tkH (v := ?_) 16 ⟨some 101, _, _, _, _, _⟩ rfl (Or.inl ⟨by rfl, ?_⟩) ?_
  rotate_left
  · intro w hSw; (try dsimp only at hSw); go_simp; try (with_reducible rfl)
  try simp only [Act.put, nz1, nz2, nz3]
  refine tkH (v := ?_) 17 ⟨some 102, _, _, _, _, _⟩ rfl (Or.inl ⟨by rfl, ?_⟩) ?_
  rotate_left
  · intro w hSw; (try dsimp only at hSw); go_simp; try (with_reducible rfl)
  try simp only [Act.put, nz1, nz2, nz3]
  refine tkH (v := ?_) 18 ⟨some 103, _, _, _, _, _⟩ rfl (Or.inl ⟨by rfl, ?_⟩) ?_
  rotate_left
  · intro w hSw; (try dsimp only at hSw); go_simp; try (with_reducible rfl)
  try simp only [Act.put, nz1, nz2, nz3]
  refine tkH (v := (.int .i64 (s.voters : Int))) 19 ⟨some 104, _, _, _, _, _⟩ rfl (yields_one (by rfl) 3 _ rfl ⟨B, 0, none⟩ rfl _ _ (fun W' hS => hS.cell (i := 0) (by omega)) Try.underlying3 rfl) ?_
  try simp only [Act.put, nz1, nz2, nz3]
  refine wpAnyH_ready (rs := [14]) (by kernel_rfl) (by simp) ?_
  refine (AllReadyH.cons (o := ⟨some 99, _, _, _, _, _⟩) rfl (fun K hK => ?_) AllReadyH.nil)
  (try rw [if_pos (by rfl)])
  go_simp
  refine (HNI.out _ hR).mono ?_
  rintro e Wn ⟨rfl, hbn⟩
  replace hR := hR.below hbn
  replace hC := hC.trans (Chg.ofBelow hbn)
  clear hbn
  try dsimp only
  refine hK.out _ _ (hR) (fun hHeld => ?_)
  clear hK K
  try simp only [Act.put, nz1, nz2, nz3]
  refine wpAnyH_ready (rs := [15]) (by kernel_rfl) (by simp) ?_
  refine (AllReadyH.cons (o := ⟨some 100, _, _, _, _, _⟩) rfl (fun K hK => ?_) AllReadyH.nil)
  (try rw [if_pos (by rfl)])
  go_simp
  refine (HFO.out _ hR).mono ?_
  rintro e Wn ⟨rfl, hbn⟩
  replace hR := hR.below hbn
  replace hC := hC.trans (Chg.ofBelow hbn)
  clear hbn
  try dsimp only
  refine hK.out _ _ (hR) (fun hHeld => ?_)
  clear hK K
  try simp only [Act.put, nz1, nz2, nz3]
  refine wpAnyH_ready (rs := [20]) (by kernel_rfl) (by simp) ?_
  refine (AllReadyH.cons (o := ⟨some 105, _, _, _, _, _⟩) rfl (fun K hK => ?_) AllReadyH.nil)
  (try rw [if_pos (by rfl)])
  go_simp
  refine (HND.out _ hR).mono ?_
  rintro e Wn ⟨rfl, hbn⟩
  replace hR := hR.below hbn
  replace hC := hC.trans (Chg.ofBelow hbn)
  clear hbn
  try dsimp only
  refine hK.out _ _ (hR) (fun hHeld => ?_)
  clear hK K
  try simp only [Act.put, nz1, nz2, nz3]
  refine tkH (v := (.bool true)) 21 ⟨some 106, _, _, _, _, _⟩ rfl (yields_binR (by rfl) .geq 3 _ _ _ rfl (.int .i64 (forN s.voters s.votes s.round 0 nilId : Int)) (.int .i64 (need s.voters)) rfl rfl _ (fun w => by rfl) (fun w => int_geq _ _ _ HFW.out w)) ?_
  try simp only [Act.put, nz1, nz2, nz3]
  refine tkH (v := ?_) 22 ⟨some 107, _, _, _, _, _⟩ rfl (Or.inl ⟨by rfl, ?_⟩) ?_
  rotate_left
  · intro w hSw; (try dsimp only at hSw); go_simp; try (with_reducible rfl)
  try simp only [Act.put, nz1, nz2, nz3]
  refine wpAnyH_done (by kernel_rfl) ?_ _
  go_wp2_with (first
    | (go_at_call 35; refine (HNI.out _ hR).mono ?_; rintro e Wn ⟨rfl, hbn⟩; replace hR := hR.below hbn; replace hC := hC.trans (Chg.ofBelow hbn); clear hbn)
    | (go_at_call 62; refine (castR_any hR 1 (.inr rfl) nilId nilId_ok HR0.out HN.out).mono ?_; rintro e Wz ⟨⟨vz, rfl, haz⟩, hrz, hcz⟩))
  go_ret2
  exact ⟨⟨_, by rw [HFIN.out]; rfl, by rw [HFIN.out]; exact haz.own.low hC.size⟩, by rw [HFIN.out]; exact hrz, hC.trans hcz⟩
set_option maxRecDepth 100000 in
set_option maxHeartbeats 8000000 in
theorem next_early_off {W : World} {B C M n : Nat} {kv : Value} {s : RdS} (h : RoundAt W B C M n kv s) (hr : 0 ≤ s.round) (hn : n < maxLen) (hag : agreedS s = none) (hah : aheadO s.voters s.votes s.round = none) (hch : choiceS s = none) (x : List UInt8) (hx : IdOk x) (hsu : sureS s s.round 0 = some x) (hst : s.step = 0) (hs1 : s.step ≠ 1) : Calls Try.prog 70 #[.pointer (some ⟨B, 0, none⟩)] W fun e w' => (∃ v, e = .returned (.tuple #[v, .bool (nextS s).isSome]) ∧ OwnA W.heap.size w' v (((nextS s).map (·.2)).getD [])) ∧ RoundAt w' B C M (n + 1) kv (((nextS s).map (·.1)).getD s) ∧ Chg W w' B M kv kv := by
  have HFIN : Hid (nextS s = none) := Lib.hid (by unfold nextS; have h0 : sure0 s = none := (by unfold sure0; rw [if_neg (fun e => e.1 hst)]); have h1 : nilDue s = false := (by unfold nilDue; rw [decide_eq_false hs1, Bool.false_and]); rw [hag, hah, hch]; dsimp only; rw [h0]; dsimp only; rw [h1]; rfl)
  have hR := h
  have hC := Chg.refl W B M kv
  have HN := Lib.hid hn
  have HR0 := Lib.hid hr
  have HWR : Hid (wfi s.round) := Lib.hid (wfi_small (by omega) (by have := h.ok.round; omega))
  have HOK := Lib.hid h.ok
  have HX := Lib.hid hx
  have HST := Lib.hid hst
  have hsb : (s.step == 1) = false := by rw [beq_eq_false_iff_ne]; exact hs1
  have HAG : Hid (∀ W', RoundAt W' B C M n kv s → Calls Try.prog 76 #[.pointer (some ⟨B, 0, none⟩)] W' fun e w' => e = .returned (.tuple #[.int .i64 0, idv zeroId, .bool false]) ∧ Below W'.heap.size W' w') := Lib.hid fun W' hR => by have := agreed_any hR; rwa [hag] at this
  have HAH : Hid (∀ W', RoundAt W' B C M n kv s → Calls Try.prog 28 #[.pointer (some ⟨C, 0, none⟩), .int .i64 s.round] W' fun e w' => e = .returned (.tuple #[.int .i64 0, .bool false]) ∧ Below W'.heap.size W' w') := Lib.hid fun W' hR => by have := ahead_any hR.cnt s.round HWR.out HOK.out.voters.2.1 HOK.out.voters.2.2; rwa [hah] at this
  have HCH : Hid (∀ W', RoundAt W' B C M n kv s → Calls Try.prog 77 #[.pointer (some ⟨B, 0, none⟩)] W' fun e w' => e = .returned (.tuple #[idv zeroId, .bool false]) ∧ Below W'.heap.size W' w') := Lib.hid fun W' hR => by have := choice_any hR; rwa [hch] at this
  have HSU : Hid (∀ W', RoundAt W' B C M n kv s → Calls Try.prog 78 #[.pointer (some ⟨B, 0, none⟩), .int .i64 s.round, .int .i64 0] W' fun e w' => e = .returned (.tuple #[idv (x), .bool true]) ∧ Below W'.heap.size W' w') := Lib.hid fun W' hR => by have := sureR_any hR s.round 0 HWR.out (wfi_small (by omega) (by omega)); rwa [hsu] at this
  have HNI : Hid (∀ W', RoundAt W' B C M n kv s → Calls Try.prog 35 #[] W' fun e w' => e = .returned (idv nilId) ∧ Below W'.heap.size W' w') := Lib.hid fun W' hR => nil_any W'
  have HFO : Hid (∀ W', RoundAt W' B C M n kv s → Calls Try.prog 26 #[.pointer (some ⟨C, 0, none⟩), .int .i64 s.round, .int .i64 0, .agg (idC nilId)] W' fun e w' => e = .returned (.int .i64 (forN s.voters s.votes s.round 0 nilId : Int)) ∧ Below W'.heap.size W' w') := Lib.hid fun W' hR => for_any' hR.cnt s.round 0 nilId HWR.out (wfi_small (by omega) (by omega)) nilId_ok HOK.out.voters.2.1
  have HND : Hid (∀ W', RoundAt W' B C M n kv s → Calls Try.prog 19 #[.int .i64 (s.voters : Int)] W' fun e w' => e = .returned (.int .i64 (need s.voters)) ∧ Below W'.heap.size W' w') := Lib.hid fun W' hR => (need_any _ W').mono fun e w' ⟨h1, h2⟩ => ⟨h1, h2 ▸ Below.refl _ _⟩
  clear hag hah hch hsu hx hst hs1
  clear h hn hr
  go_enter Try.func70, Try.ntmps70
  go_upto_region 5 with (first
    | (go_at_call 76; refine (HAG.out _ hR).mono ?_; rintro e Wn ⟨rfl, hbn⟩; replace hR := hR.below hbn; replace hC := hC.trans (Chg.ofBelow hbn); clear hbn)
    | (guard_target = wpList _ _ _ (Oper.mk _ (.store 24 _ _) _ _ _ _ :: _) _ _; refine wpList_store_idv rfl _ _ rfl Wn.heap.size (zeroId) rfl rfl zeroId_ok 24 _ (Blk.newAt _ _ rfl rfl) rfl ?_; intro W3 hS3 hz3 hb3 hk3; have hbn := (((Below.refl _ Wn).alloc (Nat.le_refl _) _).trans hb3); clear hb3 hk3 hz3; replace hR := hR.below hbn; replace hC := hC.trans (Chg.ofBelow hbn); clear hbn; clear hS3))
  replace hR := hR.drew
  replace hC := hC.trans (Chg.ofBelow (Below.refl _ _).drew)
  refine wp_region_held_drew (S := fun W' => RoundAt W' B C M n kv s) (by kernel_rfl) ?_ (fun hHeld => ?_)
  · exact hR
  refine tkH (v := ?_) 0 ⟨some 28, _, _, _, _, _⟩ rfl (Or.inl ⟨by rfl, ?_⟩) ?_
  rotate_left
  · intro w hSw; (try dsimp only at hSw); go_simp; try (with_reducible rfl)
  try simp only [Act.put, nz1, nz2, nz3]
  refine tkH (v := ?_) 1 ⟨some 29, _, _, _, _, _⟩ rfl (Or.inl ⟨by rfl, ?_⟩) ?_
  rotate_left
  · intro w hSw; (try dsimp only at hSw); go_simp; try (with_reducible rfl)
  try simp only [Act.put, nz1, nz2, nz3]
  refine tkH (v := ?_) 2 ⟨some 30, _, _, _, _, _⟩ rfl (Or.inl ⟨by rfl, ?_⟩) ?_
  rotate_left
  · intro w hSw; (try dsimp only at hSw); go_simp; try (with_reducible rfl)
  try simp only [Act.put, nz1, nz2, nz3]
  refine tkH (v := (.pointer (some ⟨C, 0, none⟩))) 3 ⟨some 31, _, _, _, _, _⟩ rfl (yields_one (by rfl) 28 _ rfl ⟨B, 548, none⟩ rfl _ _ (fun W' hS => hS.cell (i := 548) (by omega)) Try.underlying28 rfl) ?_
  try simp only [Act.put, nz1, nz2, nz3]
  refine tkH (v := ?_) 4 ⟨some 32, _, _, _, _, _⟩ rfl (Or.inl ⟨by rfl, ?_⟩) ?_
  rotate_left
  · intro w hSw; (try dsimp only at hSw); go_simp; try (with_reducible rfl)
  try simp only [Act.put, nz1, nz2, nz3]
  refine tkH (v := ?_) 5 ⟨some 33, _, _, _, _, _⟩ rfl (Or.inl ⟨by rfl, ?_⟩) ?_
  rotate_left
  · intro w hSw; (try dsimp only at hSw); go_simp; try (with_reducible rfl)
  try simp only [Act.put, nz1, nz2, nz3]
  refine tkH (v := ?_) 6 ⟨some 34, _, _, _, _, _⟩ rfl (Or.inl ⟨by rfl, ?_⟩) ?_
  rotate_left
  · intro w hSw; (try dsimp only at hSw); go_simp; try (with_reducible rfl)
  try simp only [Act.put, nz1, nz2, nz3]
  refine tkH (v := (.int .i64 s.round)) 7 ⟨some 35, _, _, _, _, _⟩ rfl (yields_one (by rfl) 3 _ rfl ⟨B, 3, none⟩ rfl _ _ (fun W' hS => hS.cell (i := 3) (by omega)) Try.underlying3 rfl) ?_
  try simp only [Act.put, nz1, nz2, nz3]
  refine wpAnyH_ready (rs := [8]) (by kernel_rfl) (by simp) ?_
  refine (AllReadyH.cons (o := ⟨some 36, _, _, _, _, _⟩) rfl (fun K hK => ?_) AllReadyH.nil)
  (try rw [if_pos (by rfl)])
  go_simp
  refine (HAH.out _ hR).mono ?_
  rintro e Wn ⟨rfl, hbn⟩
  replace hR := hR.below hbn
  replace hC := hC.trans (Chg.ofBelow hbn)
  clear hbn
  try dsimp only
  refine hK.out _ _ (hR) (fun hHeld => ?_)
  clear hK K
  try simp only [Act.put, nz1, nz2, nz3]
  refine tkH (v := ?_) 9 ⟨some 27, _, _, _, _, _⟩ rfl (Or.inl ⟨by rfl, ?_⟩) ?_
  rotate_left
  · intro w hSw; (try dsimp only at hSw); go_simp; try (with_reducible rfl)
  try simp only [Act.put, nz1, nz2, nz3]
  refine tkH (v := ?_) 10 ⟨some 37, _, _, _, _, _⟩ rfl (Or.inl ⟨by rfl, ?_⟩) ?_
  rotate_left
  · intro w hSw; (try dsimp only at hSw); go_simp; try (with_reducible rfl)
  try simp only [Act.put, nz1, nz2, nz3]
  refine tkH (v := ?_) 11 ⟨some 38, _, _, _, _, _⟩ rfl (Or.inl ⟨by rfl, ?_⟩) ?_
  rotate_left
  · intro w hSw; (try dsimp only at hSw); go_simp; try (with_reducible rfl)
  try simp only [Act.put, nz1, nz2, nz3]
  refine tkH (v := ?_) 12 ⟨some 7, _, _, _, _, _⟩ rfl (Or.inl ⟨by rfl, ?_⟩) ?_
  rotate_left
  · intro w hSw; (try dsimp only at hSw); go_simp; try (with_reducible rfl)
  try simp only [Act.put, nz1, nz2, nz3]
  refine tkH (v := ?_) 13 ⟨some 8, _, _, _, _, _⟩ rfl (Or.inl ⟨by rfl, ?_⟩) ?_
  rotate_left
  · intro w hSw; (try dsimp only at hSw); go_simp; try (with_reducible rfl)
  try simp only [Act.put, nz1, nz2, nz3]
  refine wpAnyH_done (by kernel_rfl) ?_ _
  go_upto_region 11 with (first
    | (go_at_call 77; refine (HCH.out _ hR).mono ?_; rintro e Wn ⟨rfl, hbn⟩; replace hR := hR.below hbn; replace hC := hC.trans (Chg.ofBelow hbn); clear hbn)
    | (guard_target = wpList _ _ _ (Oper.mk _ (.store 24 _ _) _ _ _ _ :: _) _ _; refine wpList_store_idv rfl _ _ rfl Wn.heap.size (zeroId) rfl rfl zeroId_ok 24 _ (Blk.newAt _ _ rfl rfl) rfl ?_; intro W3 hS3 hz3 hb3 hk3; have hbn := (((Below.refl _ Wn).alloc (Nat.le_refl _) _).trans hb3); clear hb3 hk3 hz3; replace hR := hR.below hbn; replace hC := hC.trans (Chg.ofBelow hbn); clear hbn; clear hS3))
  have c3 := hR.cell (i := 3) (by omega)
  change _ = some (Value.int IntKind.i64 s.round) at c3
  go_upto_region 12 with (first
    | (go_at_call 78; refine (HSU.out _ hR).mono ?_; rintro e Wn ⟨rfl, hbn⟩; replace hR := hR.below hbn; replace hC := hC.trans (Chg.ofBelow hbn); clear hbn)
    | (guard_target = wpList _ _ _ (Oper.mk _ (.store 24 _ _) _ _ _ _ :: _) _ _; refine wpList_store_idv rfl _ _ rfl Wn.heap.size (x) rfl rfl HX.out 24 _ (Blk.newAt _ _ rfl rfl) rfl ?_; intro W3 hS3 hz3 hb3 hk3; have hbn := (((Below.refl _ Wn).alloc (Nat.le_refl _) _).trans hb3); clear hb3 hk3 hz3; replace hR := hR.below hbn; replace hC := hC.trans (Chg.ofBelow hbn); clear hbn; clear hS3))
  clear c3
  replace hR := hR.drew
  replace hC := hC.trans (Chg.ofBelow (Below.refl _ _).drew)
  refine wp_region_held_drew (S := fun W' => RoundAt W' B C M n kv s) (by kernel_rfl) ?_ (fun hHeld => ?_)
  · exact hR
  refine tkH (v := ?_) 0 ⟨some 61, _, _, _, _, _⟩ rfl (Or.inl ⟨by rfl, ?_⟩) ?_
  rotate_left
  · intro w hSw; (try dsimp only at hSw); go_simp; try (with_reducible rfl)
  try simp only [Act.put, nz1, nz2, nz3]
  refine tkH (v := ?_) 1 ⟨some 62, _, _, _, _, _⟩ rfl (Or.inl ⟨by rfl, ?_⟩) ?_
  rotate_left
  · intro w hSw; (try dsimp only at hSw); go_simp; try (with_reducible rfl)
  try simp only [Act.put, nz1, nz2, nz3]
  refine tkH (v := ?_) 2 ⟨some 63, _, _, _, _, _⟩ rfl (Or.inl ⟨by rfl, ?_⟩) ?_
  rotate_left
  · intro w hSw; (try dsimp only at hSw); go_simp; try (with_reducible rfl)
  try simp only [Act.put, nz1, nz2, nz3]
  refine tkH (v := ?_) 3 ⟨some 64, _, _, _, _, _⟩ rfl (Or.inl ⟨by rfl, ?_⟩) ?_
  rotate_left
  · intro w hSw; (try dsimp only at hSw); go_simp; try (with_reducible rfl)
  try simp only [Act.put, nz1, nz2, nz3]
  refine tkH (v := ?_) 4 ⟨some 65, _, _, _, _, _⟩ rfl (Or.inl ⟨by rfl, ?_⟩) ?_
  rotate_left
  · intro w hSw; (try dsimp only at hSw); go_simp; try (with_reducible rfl)
  try simp only [Act.put, nz1, nz2, nz3]
  refine tkH (v := (.int .i64 0)) 5 ⟨some 66, _, _, _, _, _⟩ rfl (yields_one (by rfl) 3 _ rfl ⟨B, 4, none⟩ rfl _ _ (fun W' hS => by rw [hS.cell (i := 4) (by omega)]; show some (Value.int .i64 s.step) = _; rw [HST.out]) Try.underlying3 rfl) ?_
  try simp only [Act.put, nz1, nz2, nz3]
  refine tkH (v := ?_) 6 ⟨some 67, _, _, _, _, _⟩ rfl (Or.inl ⟨by rfl, ?_⟩) ?_
  rotate_left
  · intro w hSw; (try dsimp only at hSw); go_simp; try (with_reducible rfl)
  try simp only [Act.put, nz1, nz2, nz3]
  refine tkH (v := ?_) 7 ⟨some 68, _, _, _, _, _⟩ rfl (Or.inl ⟨by rfl, ?_⟩) ?_
  rotate_left
  · intro w hSw; (try dsimp only at hSw); go_simp; try (with_reducible rfl)
  try simp only [Act.put, nz1, nz2, nz3]
  refine tkH (v := ?_) 8 ⟨some 69, _, _, _, _, _⟩ rfl (Or.inl ⟨by rfl, ?_⟩) ?_
  rotate_left
  · intro w hSw; (try dsimp only at hSw); go_simp; try (with_reducible rfl)
  try simp only [Act.put, nz1, nz2, nz3]
  refine tkH (v := undef) 9 ⟨some 70, _, _, _, _, _⟩ rfl (Or.inr ⟨by rfl, rfl⟩) ?_
  try simp only [Act.put, nz1, nz2, nz3]
  refine tkH (v := undef) 10 ⟨some 71, _, _, _, _, _⟩ rfl (Or.inr ⟨by rfl, rfl⟩) ?_
  try simp only [Act.put, nz1, nz2, nz3]
  refine tkH (v := undef) 11 ⟨some 72, _, _, _, _, _⟩ rfl (Or.inr ⟨by rfl, rfl⟩) ?_
  try simp only [Act.put, nz1, nz2, nz3]
  refine tkH (v := undef) 12 ⟨some 73, _, _, _, _, _⟩ rfl (Or.inr ⟨by rfl, rfl⟩) ?_
  try simp only [Act.put, nz1, nz2, nz3]
  refine tkH (v := undef) 13 ⟨some 74, _, _, _, _, _⟩ rfl (Or.inr ⟨by rfl, rfl⟩) ?_
  try simp only [Act.put, nz1, nz2, nz3]
  refine tkH (v := undef) 14 ⟨some 75, _, _, _, _, _⟩ rfl (Or.inr ⟨by rfl, rfl⟩) ?_
  try simp only [Act.put, nz1, nz2, nz3]
  refine tkH (v := undef) 15 ⟨some 76, _, _, _, _, _⟩ rfl (Or.inr ⟨by rfl, rfl⟩) ?_
  try simp only [Act.put, nz1, nz2, nz3]
  refine tkH (v := undef) 16 ⟨some 77, _, _, _, _, _⟩ rfl (Or.inr ⟨by rfl, rfl⟩) ?_
  try simp only [Act.put, nz1, nz2, nz3]
  refine tkH (v := undef) 17 ⟨some 78, _, _, _, _, _⟩ rfl (Or.inr ⟨by rfl, rfl⟩) ?_
  try simp only [Act.put, nz1, nz2, nz3]
  refine tkH (v := undef) 18 ⟨some 79, _, _, _, _, _⟩ rfl (Or.inr ⟨by rfl, rfl⟩) ?_
  try simp only [Act.put, nz1, nz2, nz3]
  refine tkH (v := undef) 19 ⟨some 80, _, _, _, _, _⟩ rfl (Or.inr ⟨by rfl, rfl⟩) ?_
  try simp only [Act.put, nz1, nz2, nz3]
  refine tkH (v := ?_) 20 ⟨some 81, _, _, _, _, _⟩ rfl (Or.inl ⟨by rfl, ?_⟩) ?_
  rotate_left
  · intro w hSw; (try dsimp only at hSw); go_simp; try (with_reducible rfl)
  try simp only [Act.put, nz1, nz2, nz3]
  refine wpAnyH_done (by kernel_rfl) ?_ _
  go_upto_region 14 with fail
  replace hR := hR.drew
  replace hC := hC.trans (Chg.ofBelow (Below.refl _ _).drew)
  refine wp_region_held_drew (S := fun W' => RoundAt W' B C M n kv s) (by kernel_rfl) ?_ (fun hHeld => ?_)
  · exact hR
  refine tkH (v := ?_) 0 ⟨some 85, _, _, _, _, _⟩ rfl (Or.inl ⟨by rfl, ?_⟩) ?_
  rotate_left
  · intro w hSw; (try dsimp only at hSw); go_simp; try (with_reducible rfl)
  try simp only [Act.put, nz1, nz2, nz3]
  refine tkH (v := ?_) 1 ⟨some 86, _, _, _, _, _⟩ rfl (Or.inl ⟨by rfl, ?_⟩) ?_
  rotate_left
  · intro w hSw; (try dsimp only at hSw); go_simp; try (with_reducible rfl)
  try simp only [Act.put, nz1, nz2, nz3]
  refine tkH (v := ?_) 2 ⟨some 87, _, _, _, _, _⟩ rfl (Or.inl ⟨by rfl, ?_⟩) ?_
  rotate_left
  · intro w hSw; (try dsimp only at hSw); go_simp; try (with_reducible rfl)
  try simp only [Act.put, nz1, nz2, nz3]
  refine tkH (v := (.int .i64 s.step)) 3 ⟨some 88, _, _, _, _, _⟩ rfl (yields_one (by rfl) 3 _ rfl ⟨B, 4, none⟩ rfl _ _ (fun W' hS => hS.cell (i := 4) (by omega)) Try.underlying3 rfl) ?_
  try simp only [Act.put, nz1, nz2, nz3]
  refine tkH (v := ?_) 4 ⟨some 89, _, _, _, _, _⟩ rfl (Or.inl ⟨by rfl, ?_⟩) ?_
  rotate_left
  · intro w hSw; (try dsimp only at hSw); go_simp; try (with_reducible rfl)
  try simp only [Act.put, nz1, nz2, nz3]
  refine tkH (v := ?_) 5 ⟨some 90, _, _, _, _, _⟩ rfl (Or.inl ⟨by rfl, ?_⟩) ?_
  rotate_left
  · intro w hSw; (try dsimp only at hSw); go_simp; try (with_reducible rfl)
  try simp only [Act.put, nz1, nz2, nz3]
  refine tkH (v := undef) 6 ⟨some 91, _, _, _, _, _⟩ rfl (Or.inr ⟨by rfl, rfl⟩) ?_
  try simp only [Act.put, nz1, nz2, nz3]
  refine tkH (v := undef) 7 ⟨some 92, _, _, _, _, _⟩ rfl (Or.inr ⟨by rfl, rfl⟩) ?_
  try simp only [Act.put, nz1, nz2, nz3]
  refine tkH (v := undef) 8 ⟨some 93, _, _, _, _, _⟩ rfl (Or.inr ⟨by rfl, rfl⟩) ?_
  try simp only [Act.put, nz1, nz2, nz3]
  refine tkH (v := undef) 9 ⟨some 94, _, _, _, _, _⟩ rfl (Or.inr ⟨by rfl, rfl⟩) ?_
  try simp only [Act.put, nz1, nz2, nz3]
  refine tkH (v := undef) 10 ⟨some 95, _, _, _, _, _⟩ rfl (Or.inr ⟨by rfl, rfl⟩) ?_
  try simp only [Act.put, nz1, nz2, nz3]
  refine tkH (v := undef) 11 ⟨some 96, _, _, _, _, _⟩ rfl (Or.inr ⟨by rfl, rfl⟩) ?_
  try simp only [Act.put, nz1, nz2, nz3]
  refine tkH (v := undef) 12 ⟨some 97, _, _, _, _, _⟩ rfl (Or.inr ⟨by rfl, rfl⟩) ?_
  try simp only [Act.put, nz1, nz2, nz3]
  refine tkH (v := undef) 13 ⟨some 98, _, _, _, _, _⟩ rfl (Or.inr ⟨by rfl, rfl⟩) ?_
  try simp only [Act.put, nz1, nz2, nz3]
  refine tkH (v := undef) 14 ⟨some 99, _, _, _, _, _⟩ rfl (Or.inr ⟨by rfl, rfl⟩) ?_
  try simp only [Act.put, nz1, nz2, nz3]
  refine tkH (v := undef) 15 ⟨some 100, _, _, _, _, _⟩ rfl (Or.inr ⟨by rfl, rfl⟩) ?_
  try simp only [Act.put, nz1, nz2, nz3]
  refine tkH (v := undef) 16 ⟨some 101, _, _, _, _, _⟩ rfl (Or.inr ⟨by rfl, rfl⟩) ?_
  try simp only [Act.put, nz1, nz2, nz3]
  refine tkH (v := undef) 17 ⟨some 102, _, _, _, _, _⟩ rfl (Or.inr ⟨by rfl, rfl⟩) ?_
  try simp only [Act.put, nz1, nz2, nz3]
  refine tkH (v := undef) 18 ⟨some 103, _, _, _, _, _⟩ rfl (Or.inr ⟨by rfl, rfl⟩) ?_
  try simp only [Act.put, nz1, nz2, nz3]
  refine tkH (v := undef) 19 ⟨some 104, _, _, _, _, _⟩ rfl (Or.inr ⟨by rfl, rfl⟩) ?_
  try simp only [Act.put, nz1, nz2, nz3]
  refine tkH (v := undef) 20 ⟨some 105, _, _, _, _, _⟩ rfl (Or.inr ⟨by rfl, rfl⟩) ?_
  try simp only [Act.put, nz1, nz2, nz3]
  refine tkH (v := undef) 21 ⟨some 106, _, _, _, _, _⟩ rfl (Or.inr ⟨by rfl, rfl⟩) ?_
  try simp only [Act.put, nz1, nz2, nz3]
  refine tkH (v := ?_) 22 ⟨some 107, _, _, _, _, _⟩ rfl (Or.inl ⟨by rfl, ?_⟩) ?_
  rotate_left
  · intro w hSw; (try dsimp only at hSw); go_simp; try (with_reducible rfl)
  try simp only [Act.put, nz1, nz2, nz3]
  refine wpAnyH_done (by kernel_rfl) ?_ _
  go_wp2_with fail
  go_ret2
  exact ⟨⟨_, by rw [HFIN.out]; rfl, by rw [HFIN.out]; exact ownA_nil _ _⟩, by rw [HFIN.out]; exact hR.mono (Nat.le_succ n), hC⟩
set_option maxRecDepth 100000 in
set_option maxHeartbeats 8000000 in
theorem next_same_off {W : World} {B C M n : Nat} {kv : Value} {s : RdS} (h : RoundAt W B C M n kv s) (hr : 0 ≤ s.round) (hn : n < maxLen) (hag : agreedS s = none) (hah : aheadO s.voters s.votes s.round = none) (hch : choiceS s = none) (x : List UInt8) (hx : IdOk x) (hsu : sureS s s.round 0 = some x) (hst : s.step ≠ 0) (hbe : s.bestR = s.round + 1) (hs1 : s.step ≠ 1) : Calls Try.prog 70 #[.pointer (some ⟨B, 0, none⟩)] W fun e w' => (∃ v, e = .returned (.tuple #[v, .bool (nextS s).isSome]) ∧ OwnA W.heap.size w' v (((nextS s).map (·.2)).getD [])) ∧ RoundAt w' B C M (n + 1) kv (((nextS s).map (·.1)).getD s) ∧ Chg W w' B M kv kv := by
  have HFIN : Hid (nextS s = none) := Lib.hid (by unfold nextS; have h0 : sure0 s = none := (by unfold sure0; rw [if_neg (fun e => e.2 hbe)]); have h1 : nilDue s = false := (by unfold nilDue; rw [decide_eq_false hs1, Bool.false_and]); rw [hag, hah, hch]; dsimp only; rw [h0]; dsimp only; rw [h1]; rfl)
  have hR := h
  have hC := Chg.refl W B M kv
  have HN := Lib.hid hn
  have HR0 := Lib.hid hr
  have HWR : Hid (wfi s.round) := Lib.hid (wfi_small (by omega) (by have := h.ok.round; omega))
  have HOK := Lib.hid h.ok
  have HX := Lib.hid hx
  have HST := Lib.hid hst
  have HBE := Lib.hid hbe
  have hsb : (s.step == 1) = false := by rw [beq_eq_false_iff_ne]; exact hs1
  have HAG : Hid (∀ W', RoundAt W' B C M n kv s → Calls Try.prog 76 #[.pointer (some ⟨B, 0, none⟩)] W' fun e w' => e = .returned (.tuple #[.int .i64 0, idv zeroId, .bool false]) ∧ Below W'.heap.size W' w') := Lib.hid fun W' hR => by have := agreed_any hR; rwa [hag] at this
  have HAH : Hid (∀ W', RoundAt W' B C M n kv s → Calls Try.prog 28 #[.pointer (some ⟨C, 0, none⟩), .int .i64 s.round] W' fun e w' => e = .returned (.tuple #[.int .i64 0, .bool false]) ∧ Below W'.heap.size W' w') := Lib.hid fun W' hR => by have := ahead_any hR.cnt s.round HWR.out HOK.out.voters.2.1 HOK.out.voters.2.2; rwa [hah] at this
  have HCH : Hid (∀ W', RoundAt W' B C M n kv s → Calls Try.prog 77 #[.pointer (some ⟨B, 0, none⟩)] W' fun e w' => e = .returned (.tuple #[idv zeroId, .bool false]) ∧ Below W'.heap.size W' w') := Lib.hid fun W' hR => by have := choice_any hR; rwa [hch] at this
  have HSU : Hid (∀ W', RoundAt W' B C M n kv s → Calls Try.prog 78 #[.pointer (some ⟨B, 0, none⟩), .int .i64 s.round, .int .i64 0] W' fun e w' => e = .returned (.tuple #[idv (x), .bool true]) ∧ Below W'.heap.size W' w') := Lib.hid fun W' hR => by have := sureR_any hR s.round 0 HWR.out (wfi_small (by omega) (by omega)); rwa [hsu] at this
  have HNI : Hid (∀ W', RoundAt W' B C M n kv s → Calls Try.prog 35 #[] W' fun e w' => e = .returned (idv nilId) ∧ Below W'.heap.size W' w') := Lib.hid fun W' hR => nil_any W'
  have HFO : Hid (∀ W', RoundAt W' B C M n kv s → Calls Try.prog 26 #[.pointer (some ⟨C, 0, none⟩), .int .i64 s.round, .int .i64 0, .agg (idC nilId)] W' fun e w' => e = .returned (.int .i64 (forN s.voters s.votes s.round 0 nilId : Int)) ∧ Below W'.heap.size W' w') := Lib.hid fun W' hR => for_any' hR.cnt s.round 0 nilId HWR.out (wfi_small (by omega) (by omega)) nilId_ok HOK.out.voters.2.1
  have HND : Hid (∀ W', RoundAt W' B C M n kv s → Calls Try.prog 19 #[.int .i64 (s.voters : Int)] W' fun e w' => e = .returned (.int .i64 (need s.voters)) ∧ Below W'.heap.size W' w') := Lib.hid fun W' hR => (need_any _ W').mono fun e w' ⟨h1, h2⟩ => ⟨h1, h2 ▸ Below.refl _ _⟩
  clear hag hah hch hsu hx hst hbe hs1
  clear h hn hr
  go_enter Try.func70, Try.ntmps70
  go_upto_region 5 with (first
    | (go_at_call 76; refine (HAG.out _ hR).mono ?_; rintro e Wn ⟨rfl, hbn⟩; replace hR := hR.below hbn; replace hC := hC.trans (Chg.ofBelow hbn); clear hbn)
    | (guard_target = wpList _ _ _ (Oper.mk _ (.store 24 _ _) _ _ _ _ :: _) _ _; refine wpList_store_idv rfl _ _ rfl Wn.heap.size (zeroId) rfl rfl zeroId_ok 24 _ (Blk.newAt _ _ rfl rfl) rfl ?_; intro W3 hS3 hz3 hb3 hk3; have hbn := (((Below.refl _ Wn).alloc (Nat.le_refl _) _).trans hb3); clear hb3 hk3 hz3; replace hR := hR.below hbn; replace hC := hC.trans (Chg.ofBelow hbn); clear hbn; clear hS3))
  replace hR := hR.drew
  replace hC := hC.trans (Chg.ofBelow (Below.refl _ _).drew)
  refine wp_region_held_drew (S := fun W' => RoundAt W' B C M n kv s) (by kernel_rfl) ?_ (fun hHeld => ?_)
  · exact hR
  refine tkH (v := ?_) 0 ⟨some 28, _, _, _, _, _⟩ rfl (Or.inl ⟨by rfl, ?_⟩) ?_
  rotate_left
  · intro w hSw; (try dsimp only at hSw); go_simp; try (with_reducible rfl)
  try simp only [Act.put, nz1, nz2, nz3]
  refine tkH (v := ?_) 1 ⟨some 29, _, _, _, _, _⟩ rfl (Or.inl ⟨by rfl, ?_⟩) ?_
  rotate_left
  · intro w hSw; (try dsimp only at hSw); go_simp; try (with_reducible rfl)
  try simp only [Act.put, nz1, nz2, nz3]
  refine tkH (v := ?_) 2 ⟨some 30, _, _, _, _, _⟩ rfl (Or.inl ⟨by rfl, ?_⟩) ?_
  rotate_left
  · intro w hSw; (try dsimp only at hSw); go_simp; try (with_reducible rfl)
  try simp only [Act.put, nz1, nz2, nz3]
  refine tkH (v := (.pointer (some ⟨C, 0, none⟩))) 3 ⟨some 31, _, _, _, _, _⟩ rfl (yields_one (by rfl) 28 _ rfl ⟨B, 548, none⟩ rfl _ _ (fun W' hS => hS.cell (i := 548) (by omega)) Try.underlying28 rfl) ?_
  try simp only [Act.put, nz1, nz2, nz3]
  refine tkH (v := ?_) 4 ⟨some 32, _, _, _, _, _⟩ rfl (Or.inl ⟨by rfl, ?_⟩) ?_
  rotate_left
  · intro w hSw; (try dsimp only at hSw); go_simp; try (with_reducible rfl)
  try simp only [Act.put, nz1, nz2, nz3]
  refine tkH (v := ?_) 5 ⟨some 33, _, _, _, _, _⟩ rfl (Or.inl ⟨by rfl, ?_⟩) ?_
  rotate_left
  · intro w hSw; (try dsimp only at hSw); go_simp; try (with_reducible rfl)
  try simp only [Act.put, nz1, nz2, nz3]
  refine tkH (v := ?_) 6 ⟨some 34, _, _, _, _, _⟩ rfl (Or.inl ⟨by rfl, ?_⟩) ?_
  rotate_left
  · intro w hSw; (try dsimp only at hSw); go_simp; try (with_reducible rfl)
  try simp only [Act.put, nz1, nz2, nz3]
  refine tkH (v := (.int .i64 s.round)) 7 ⟨some 35, _, _, _, _, _⟩ rfl (yields_one (by rfl) 3 _ rfl ⟨B, 3, none⟩ rfl _ _ (fun W' hS => hS.cell (i := 3) (by omega)) Try.underlying3 rfl) ?_
  try simp only [Act.put, nz1, nz2, nz3]
  refine wpAnyH_ready (rs := [8]) (by kernel_rfl) (by simp) ?_
  refine (AllReadyH.cons (o := ⟨some 36, _, _, _, _, _⟩) rfl (fun K hK => ?_) AllReadyH.nil)
  (try rw [if_pos (by rfl)])
  go_simp
  refine (HAH.out _ hR).mono ?_
  rintro e Wn ⟨rfl, hbn⟩
  replace hR := hR.below hbn
  replace hC := hC.trans (Chg.ofBelow hbn)
  clear hbn
  try dsimp only
  refine hK.out _ _ (hR) (fun hHeld => ?_)
  clear hK K
  try simp only [Act.put, nz1, nz2, nz3]
  refine tkH (v := ?_) 9 ⟨some 27, _, _, _, _, _⟩ rfl (Or.inl ⟨by rfl, ?_⟩) ?_
  rotate_left
  · intro w hSw; (try dsimp only at hSw); go_simp; try (with_reducible rfl)
  try simp only [Act.put, nz1, nz2, nz3]
  refine tkH (v := ?_) 10 ⟨some 37, _, _, _, _, _⟩ rfl (Or.inl ⟨by rfl, ?_⟩) ?_
  rotate_left
  · intro w hSw; (try dsimp only at hSw); go_simp; try (with_reducible rfl)
  try simp only [Act.put, nz1, nz2, nz3]
  refine tkH (v := ?_) 11 ⟨some 38, _, _, _, _, _⟩ rfl (Or.inl ⟨by rfl, ?_⟩) ?_
  rotate_left
  · intro w hSw; (try dsimp only at hSw); go_simp; try (with_reducible rfl)
  try simp only [Act.put, nz1, nz2, nz3]
  refine tkH (v := ?_) 12 ⟨some 7, _, _, _, _, _⟩ rfl (Or.inl ⟨by rfl, ?_⟩) ?_
  rotate_left
  · intro w hSw; (try dsimp only at hSw); go_simp; try (with_reducible rfl)
  try simp only [Act.put, nz1, nz2, nz3]
  refine tkH (v := ?_) 13 ⟨some 8, _, _, _, _, _⟩ rfl (Or.inl ⟨by rfl, ?_⟩) ?_
  rotate_left
  · intro w hSw; (try dsimp only at hSw); go_simp; try (with_reducible rfl)
  try simp only [Act.put, nz1, nz2, nz3]
  refine wpAnyH_done (by kernel_rfl) ?_ _
  go_upto_region 11 with (first
    | (go_at_call 77; refine (HCH.out _ hR).mono ?_; rintro e Wn ⟨rfl, hbn⟩; replace hR := hR.below hbn; replace hC := hC.trans (Chg.ofBelow hbn); clear hbn)
    | (guard_target = wpList _ _ _ (Oper.mk _ (.store 24 _ _) _ _ _ _ :: _) _ _; refine wpList_store_idv rfl _ _ rfl Wn.heap.size (zeroId) rfl rfl zeroId_ok 24 _ (Blk.newAt _ _ rfl rfl) rfl ?_; intro W3 hS3 hz3 hb3 hk3; have hbn := (((Below.refl _ Wn).alloc (Nat.le_refl _) _).trans hb3); clear hb3 hk3 hz3; replace hR := hR.below hbn; replace hC := hC.trans (Chg.ofBelow hbn); clear hbn; clear hS3))
  have c3 := hR.cell (i := 3) (by omega)
  change _ = some (Value.int IntKind.i64 s.round) at c3
  go_upto_region 12 with (first
    | (go_at_call 78; refine (HSU.out _ hR).mono ?_; rintro e Wn ⟨rfl, hbn⟩; replace hR := hR.below hbn; replace hC := hC.trans (Chg.ofBelow hbn); clear hbn)
    | (guard_target = wpList _ _ _ (Oper.mk _ (.store 24 _ _) _ _ _ _ :: _) _ _; refine wpList_store_idv rfl _ _ rfl Wn.heap.size (x) rfl rfl HX.out 24 _ (Blk.newAt _ _ rfl rfl) rfl ?_; intro W3 hS3 hz3 hb3 hk3; have hbn := (((Below.refl _ Wn).alloc (Nat.le_refl _) _).trans hb3); clear hb3 hk3 hz3; replace hR := hR.below hbn; replace hC := hC.trans (Chg.ofBelow hbn); clear hbn; clear hS3))
  clear c3
  replace hR := hR.drew
  replace hC := hC.trans (Chg.ofBelow (Below.refl _ _).drew)
  refine wp_region_held_drew (S := fun W' => RoundAt W' B C M n kv s) (by kernel_rfl) ?_ (fun hHeld => ?_)
  · exact hR
  refine tkH (v := ?_) 0 ⟨some 61, _, _, _, _, _⟩ rfl (Or.inl ⟨by rfl, ?_⟩) ?_
  rotate_left
  · intro w hSw; (try dsimp only at hSw); go_simp; try (with_reducible rfl)
  try simp only [Act.put, nz1, nz2, nz3]
  refine tkH (v := ?_) 1 ⟨some 62, _, _, _, _, _⟩ rfl (Or.inl ⟨by rfl, ?_⟩) ?_
  rotate_left
  · intro w hSw; (try dsimp only at hSw); go_simp; try (with_reducible rfl)
  try simp only [Act.put, nz1, nz2, nz3]
  refine tkH (v := ?_) 2 ⟨some 63, _, _, _, _, _⟩ rfl (Or.inl ⟨by rfl, ?_⟩) ?_
  rotate_left
  · intro w hSw; (try dsimp only at hSw); go_simp; try (with_reducible rfl)
  try simp only [Act.put, nz1, nz2, nz3]
  refine tkH (v := ?_) 3 ⟨some 64, _, _, _, _, _⟩ rfl (Or.inl ⟨by rfl, ?_⟩) ?_
  rotate_left
  · intro w hSw; (try dsimp only at hSw); go_simp; try (with_reducible rfl)
  try simp only [Act.put, nz1, nz2, nz3]
  refine tkH (v := ?_) 4 ⟨some 65, _, _, _, _, _⟩ rfl (Or.inl ⟨by rfl, ?_⟩) ?_
  rotate_left
  · intro w hSw; (try dsimp only at hSw); go_simp; try (with_reducible rfl)
  try simp only [Act.put, nz1, nz2, nz3]
  refine tkH (v := (.int .i64 s.step)) 5 ⟨some 66, _, _, _, _, _⟩ rfl (yields_one (by rfl) 3 _ rfl ⟨B, 4, none⟩ rfl _ _ (fun W' hS => hS.cell (i := 4) (by omega)) Try.underlying3 rfl) ?_
  try simp only [Act.put, nz1, nz2, nz3]
  refine tkH (v := (.bool true)) 6 ⟨some 67, _, _, _, _, _⟩ rfl (yields_binR (by rfl) .neq 3 _ _ _ rfl (.int .i64 s.step) (.int .i64 0) rfl rfl _ (fun w => by rfl) (fun w => int_neq _ _ _ (by simpa using HST.out) w)) ?_
  try simp only [Act.put, nz1, nz2, nz3]
  refine tkH (v := ?_) 7 ⟨some 68, _, _, _, _, _⟩ rfl (Or.inl ⟨by rfl, ?_⟩) ?_
  rotate_left
  · intro w hSw; (try dsimp only at hSw); go_simp; try (with_reducible rfl)
  try simp only [Act.put, nz1, nz2, nz3]
  refine tkH (v := ?_) 8 ⟨some 69, _, _, _, _, _⟩ rfl (Or.inl ⟨by rfl, ?_⟩) ?_
  rotate_left
  · intro w hSw; (try dsimp only at hSw); go_simp; try (with_reducible rfl)
  try simp only [Act.put, nz1, nz2, nz3]
  refine tkH (v := ?_) 9 ⟨some 70, _, _, _, _, _⟩ rfl (Or.inl ⟨by rfl, ?_⟩) ?_
  rotate_left
  · intro w hSw; (try dsimp only at hSw); go_simp; try (with_reducible rfl)
  try simp only [Act.put, nz1, nz2, nz3]
  refine tkH (v := ?_) 10 ⟨some 71, _, _, _, _, _⟩ rfl (Or.inl ⟨by rfl, ?_⟩) ?_
  rotate_left
  · intro w hSw; (try dsimp only at hSw); go_simp; try (with_reducible rfl)
  try simp only [Act.put, nz1, nz2, nz3]
  refine tkH (v := ?_) 11 ⟨some 72, _, _, _, _, _⟩ rfl (Or.inl ⟨by rfl, ?_⟩) ?_
  rotate_left
  · intro w hSw; (try dsimp only at hSw); go_simp; try (with_reducible rfl)
  try simp only [Act.put, nz1, nz2, nz3]
  refine tkH (v := ?_) 12 ⟨some 73, _, _, _, _, _⟩ rfl (Or.inl ⟨by rfl, ?_⟩) ?_
  rotate_left
  · intro w hSw; (try dsimp only at hSw); go_simp; try (with_reducible rfl)
  try simp only [Act.put, nz1, nz2, nz3]
  refine tkH (v := (.int .i64 s.bestR)) 13 ⟨some 74, _, _, _, _, _⟩ rfl (yields_one (by rfl) 3 _ rfl ⟨B, 70, none⟩ rfl _ _ (fun W' hS => hS.cell (i := 70) (by omega)) Try.underlying3 rfl) ?_
  try simp only [Act.put, nz1, nz2, nz3]
  refine tkH (v := ?_) 14 ⟨some 75, _, _, _, _, _⟩ rfl (Or.inl ⟨by rfl, ?_⟩) ?_
  rotate_left
  · intro w hSw; (try dsimp only at hSw); go_simp; try (with_reducible rfl)
  try simp only [Act.put, nz1, nz2, nz3]
  refine tkH (v := ?_) 15 ⟨some 76, _, _, _, _, _⟩ rfl (Or.inl ⟨by rfl, ?_⟩) ?_
  rotate_left
  · intro w hSw; (try dsimp only at hSw); go_simp; try (with_reducible rfl)
  try simp only [Act.put, nz1, nz2, nz3]
  refine tkH (v := ?_) 16 ⟨some 77, _, _, _, _, _⟩ rfl (Or.inl ⟨by rfl, ?_⟩) ?_
  rotate_left
  · intro w hSw; (try dsimp only at hSw); go_simp; try (with_reducible rfl)
  try simp only [Act.put, nz1, nz2, nz3]
  refine tkH (v := (.int .i64 s.round)) 17 ⟨some 78, _, _, _, _, _⟩ rfl (yields_one (by rfl) 3 _ rfl ⟨B, 3, none⟩ rfl _ _ (fun W' hS => hS.cell (i := 3) (by omega)) Try.underlying3 rfl) ?_
  try simp only [Act.put, nz1, nz2, nz3]
  refine tkH (v := (.int .i64 (s.round + 1))) 18 ⟨some 79, _, _, _, _, _⟩ rfl (yields_binR (by rfl) .add 3 _ _ _ rfl (.int .i64 s.round) (.int .i64 1) rfl rfl _ (fun w => by rfl) (fun w => int_add1 s.round (by have := HOK.out.round; omega) w)) ?_
  try simp only [Act.put, nz1, nz2, nz3]
  refine tkH (v := (.bool false)) 19 ⟨some 80, _, _, _, _, _⟩ rfl (yields_binR (by rfl) .neq 3 _ _ _ rfl (.int .i64 s.bestR) (.int .i64 (s.round + 1)) rfl rfl _ (fun w => by rfl) (fun w => int_neq _ _ _ (by simpa using HBE.out) w)) ?_
  try simp only [Act.put, nz1, nz2, nz3]
  refine tkH (v := ?_) 20 ⟨some 81, _, _, _, _, _⟩ rfl (Or.inl ⟨by rfl, ?_⟩) ?_
  rotate_left
  · intro w hSw; (try dsimp only at hSw); go_simp; try (with_reducible rfl)
  try simp only [Act.put, nz1, nz2, nz3]
  refine wpAnyH_done (by kernel_rfl) ?_ _
  go_upto_region 14 with fail
  replace hR := hR.drew
  replace hC := hC.trans (Chg.ofBelow (Below.refl _ _).drew)
  refine wp_region_held_drew (S := fun W' => RoundAt W' B C M n kv s) (by kernel_rfl) ?_ (fun hHeld => ?_)
  · exact hR
  refine tkH (v := ?_) 0 ⟨some 85, _, _, _, _, _⟩ rfl (Or.inl ⟨by rfl, ?_⟩) ?_
  rotate_left
  · intro w hSw; (try dsimp only at hSw); go_simp; try (with_reducible rfl)
  try simp only [Act.put, nz1, nz2, nz3]
  refine tkH (v := ?_) 1 ⟨some 86, _, _, _, _, _⟩ rfl (Or.inl ⟨by rfl, ?_⟩) ?_
  rotate_left
  · intro w hSw; (try dsimp only at hSw); go_simp; try (with_reducible rfl)
  try simp only [Act.put, nz1, nz2, nz3]
  refine tkH (v := ?_) 2 ⟨some 87, _, _, _, _, _⟩ rfl (Or.inl ⟨by rfl, ?_⟩) ?_
  rotate_left
  · intro w hSw; (try dsimp only at hSw); go_simp; try (with_reducible rfl)
  try simp only [Act.put, nz1, nz2, nz3]
  refine tkH (v := (.int .i64 s.step)) 3 ⟨some 88, _, _, _, _, _⟩ rfl (yields_one (by rfl) 3 _ rfl ⟨B, 4, none⟩ rfl _ _ (fun W' hS => hS.cell (i := 4) (by omega)) Try.underlying3 rfl) ?_
  try simp only [Act.put, nz1, nz2, nz3]
  refine tkH (v := ?_) 4 ⟨some 89, _, _, _, _, _⟩ rfl (Or.inl ⟨by rfl, ?_⟩) ?_
  rotate_left
  · intro w hSw; (try dsimp only at hSw); go_simp; try (with_reducible rfl)
  try simp only [Act.put, nz1, nz2, nz3]
  refine tkH (v := ?_) 5 ⟨some 90, _, _, _, _, _⟩ rfl (Or.inl ⟨by rfl, ?_⟩) ?_
  rotate_left
  · intro w hSw; (try dsimp only at hSw); go_simp; try (with_reducible rfl)
  try simp only [Act.put, nz1, nz2, nz3]
  refine tkH (v := undef) 6 ⟨some 91, _, _, _, _, _⟩ rfl (Or.inr ⟨by rfl, rfl⟩) ?_
  try simp only [Act.put, nz1, nz2, nz3]
  refine tkH (v := undef) 7 ⟨some 92, _, _, _, _, _⟩ rfl (Or.inr ⟨by rfl, rfl⟩) ?_
  try simp only [Act.put, nz1, nz2, nz3]
  refine tkH (v := undef) 8 ⟨some 93, _, _, _, _, _⟩ rfl (Or.inr ⟨by rfl, rfl⟩) ?_
  try simp only [Act.put, nz1, nz2, nz3]
  refine tkH (v := undef) 9 ⟨some 94, _, _, _, _, _⟩ rfl (Or.inr ⟨by rfl, rfl⟩) ?_
  try simp only [Act.put, nz1, nz2, nz3]
  refine tkH (v := undef) 10 ⟨some 95, _, _, _, _, _⟩ rfl (Or.inr ⟨by rfl, rfl⟩) ?_
  try simp only [Act.put, nz1, nz2, nz3]
  refine tkH (v := undef) 11 ⟨some 96, _, _, _, _, _⟩ rfl (Or.inr ⟨by rfl, rfl⟩) ?_
  try simp only [Act.put, nz1, nz2, nz3]
  refine tkH (v := undef) 12 ⟨some 97, _, _, _, _, _⟩ rfl (Or.inr ⟨by rfl, rfl⟩) ?_
  try simp only [Act.put, nz1, nz2, nz3]
  refine tkH (v := undef) 13 ⟨some 98, _, _, _, _, _⟩ rfl (Or.inr ⟨by rfl, rfl⟩) ?_
  try simp only [Act.put, nz1, nz2, nz3]
  refine tkH (v := undef) 14 ⟨some 99, _, _, _, _, _⟩ rfl (Or.inr ⟨by rfl, rfl⟩) ?_
  try simp only [Act.put, nz1, nz2, nz3]
  refine tkH (v := undef) 15 ⟨some 100, _, _, _, _, _⟩ rfl (Or.inr ⟨by rfl, rfl⟩) ?_
  try simp only [Act.put, nz1, nz2, nz3]
  refine tkH (v := undef) 16 ⟨some 101, _, _, _, _, _⟩ rfl (Or.inr ⟨by rfl, rfl⟩) ?_
  try simp only [Act.put, nz1, nz2, nz3]
  refine tkH (v := undef) 17 ⟨some 102, _, _, _, _, _⟩ rfl (Or.inr ⟨by rfl, rfl⟩) ?_
  try simp only [Act.put, nz1, nz2, nz3]
  refine tkH (v := undef) 18 ⟨some 103, _, _, _, _, _⟩ rfl (Or.inr ⟨by rfl, rfl⟩) ?_
  try simp only [Act.put, nz1, nz2, nz3]
  refine tkH (v := undef) 19 ⟨some 104, _, _, _, _, _⟩ rfl (Or.inr ⟨by rfl, rfl⟩) ?_
  try simp only [Act.put, nz1, nz2, nz3]
  refine tkH (v := undef) 20 ⟨some 105, _, _, _, _, _⟩ rfl (Or.inr ⟨by rfl, rfl⟩) ?_
  try simp only [Act.put, nz1, nz2, nz3]
  refine tkH (v := undef) 21 ⟨some 106, _, _, _, _, _⟩ rfl (Or.inr ⟨by rfl, rfl⟩) ?_
  try simp only [Act.put, nz1, nz2, nz3]
  refine tkH (v := ?_) 22 ⟨some 107, _, _, _, _, _⟩ rfl (Or.inl ⟨by rfl, ?_⟩) ?_
  rotate_left
  · intro w hSw; (try dsimp only at hSw); go_simp; try (with_reducible rfl)
  try simp only [Act.put, nz1, nz2, nz3]
  refine wpAnyH_done (by kernel_rfl) ?_ _
  go_wp2_with fail
  go_ret2
  exact ⟨⟨_, by rw [HFIN.out]; rfl, by rw [HFIN.out]; exact ownA_nil _ _⟩, by rw [HFIN.out]; exact hR.mono (Nat.le_succ n), hC⟩
set_option maxRecDepth 100000 in
set_option maxHeartbeats 8000000 in
theorem next_same_few {W : World} {B C M n : Nat} {kv : Value} {s : RdS} (h : RoundAt W B C M n kv s) (hr : 0 ≤ s.round) (hn : n < maxLen) (hag : agreedS s = none) (hah : aheadO s.voters s.votes s.round = none) (hch : choiceS s = none) (x : List UInt8) (hx : IdOk x) (hsu : sureS s s.round 0 = some x) (hst : s.step ≠ 0) (hbe : s.bestR = s.round + 1) (hs1 : s.step = 1) (hfw : decide (need s.voters ≤ (forN s.voters s.votes s.round 0 nilId : Int)) = false) : Calls Try.prog 70 #[.pointer (some ⟨B, 0, none⟩)] W fun e w' => (∃ v, e = .returned (.tuple #[v, .bool (nextS s).isSome]) ∧ OwnA W.heap.size w' v (((nextS s).map (·.2)).getD [])) ∧ RoundAt w' B C M (n + 1) kv (((nextS s).map (·.1)).getD s) ∧ Chg W w' B M kv kv := by
  have HFIN : Hid (nextS s = none) := Lib.hid (by unfold nextS; have h0 : sure0 s = none := (by unfold sure0; rw [if_neg (fun e => e.2 hbe)]); have h1 : nilDue s = false := (by unfold nilDue; rw [hfw, decide_eq_true hs1]; rfl); rw [hag, hah, hch]; dsimp only; rw [h0]; dsimp only; rw [h1]; rfl)
  have hR := h
  have hC := Chg.refl W B M kv
  have HN := Lib.hid hn
  have HR0 := Lib.hid hr
  have HWR : Hid (wfi s.round) := Lib.hid (wfi_small (by omega) (by have := h.ok.round; omega))
  have HOK := Lib.hid h.ok
  have HX := Lib.hid hx
  have HST := Lib.hid hst
  have HBE := Lib.hid hbe
  have HS1 := Lib.hid hs1
  have HFW := Lib.hid hfw
  have HAG : Hid (∀ W', RoundAt W' B C M n kv s → Calls Try.prog 76 #[.pointer (some ⟨B, 0, none⟩)] W' fun e w' => e = .returned (.tuple #[.int .i64 0, idv zeroId, .bool false]) ∧ Below W'.heap.size W' w') := Lib.hid fun W' hR => by have := agreed_any hR; rwa [hag] at this
  have HAH : Hid (∀ W', RoundAt W' B C M n kv s → Calls Try.prog 28 #[.pointer (some ⟨C, 0, none⟩), .int .i64 s.round] W' fun e w' => e = .returned (.tuple #[.int .i64 0, .bool false]) ∧ Below W'.heap.size W' w') := Lib.hid fun W' hR => by have := ahead_any hR.cnt s.round HWR.out HOK.out.voters.2.1 HOK.out.voters.2.2; rwa [hah] at this
  have HCH : Hid (∀ W', RoundAt W' B C M n kv s → Calls Try.prog 77 #[.pointer (some ⟨B, 0, none⟩)] W' fun e w' => e = .returned (.tuple #[idv zeroId, .bool false]) ∧ Below W'.heap.size W' w') := Lib.hid fun W' hR => by have := choice_any hR; rwa [hch] at this
  have HSU : Hid (∀ W', RoundAt W' B C M n kv s → Calls Try.prog 78 #[.pointer (some ⟨B, 0, none⟩), .int .i64 s.round, .int .i64 0] W' fun e w' => e = .returned (.tuple #[idv (x), .bool true]) ∧ Below W'.heap.size W' w') := Lib.hid fun W' hR => by have := sureR_any hR s.round 0 HWR.out (wfi_small (by omega) (by omega)); rwa [hsu] at this
  have HNI : Hid (∀ W', RoundAt W' B C M n kv s → Calls Try.prog 35 #[] W' fun e w' => e = .returned (idv nilId) ∧ Below W'.heap.size W' w') := Lib.hid fun W' hR => nil_any W'
  have HFO : Hid (∀ W', RoundAt W' B C M n kv s → Calls Try.prog 26 #[.pointer (some ⟨C, 0, none⟩), .int .i64 s.round, .int .i64 0, .agg (idC nilId)] W' fun e w' => e = .returned (.int .i64 (forN s.voters s.votes s.round 0 nilId : Int)) ∧ Below W'.heap.size W' w') := Lib.hid fun W' hR => for_any' hR.cnt s.round 0 nilId HWR.out (wfi_small (by omega) (by omega)) nilId_ok HOK.out.voters.2.1
  have HND : Hid (∀ W', RoundAt W' B C M n kv s → Calls Try.prog 19 #[.int .i64 (s.voters : Int)] W' fun e w' => e = .returned (.int .i64 (need s.voters)) ∧ Below W'.heap.size W' w') := Lib.hid fun W' hR => (need_any _ W').mono fun e w' ⟨h1, h2⟩ => ⟨h1, h2 ▸ Below.refl _ _⟩
  clear hag hah hch hsu hx hst hbe hs1 hfw
  clear h hn hr
  go_enter Try.func70, Try.ntmps70
  go_upto_region 5 with (first
    | (go_at_call 76; refine (HAG.out _ hR).mono ?_; rintro e Wn ⟨rfl, hbn⟩; replace hR := hR.below hbn; replace hC := hC.trans (Chg.ofBelow hbn); clear hbn)
    | (guard_target = wpList _ _ _ (Oper.mk _ (.store 24 _ _) _ _ _ _ :: _) _ _; refine wpList_store_idv rfl _ _ rfl Wn.heap.size (zeroId) rfl rfl zeroId_ok 24 _ (Blk.newAt _ _ rfl rfl) rfl ?_; intro W3 hS3 hz3 hb3 hk3; have hbn := (((Below.refl _ Wn).alloc (Nat.le_refl _) _).trans hb3); clear hb3 hk3 hz3; replace hR := hR.below hbn; replace hC := hC.trans (Chg.ofBelow hbn); clear hbn; clear hS3))
  replace hR := hR.drew
  replace hC := hC.trans (Chg.ofBelow (Below.refl _ _).drew)
  refine wp_region_held_drew (S := fun W' => RoundAt W' B C M n kv s) (by kernel_rfl) ?_ (fun hHeld => ?_)
  · exact hR
  refine tkH (v := ?_) 0 ⟨some 28, _, _, _, _, _⟩ rfl (Or.inl ⟨by rfl, ?_⟩) ?_
  rotate_left
  · intro w hSw; (try dsimp only at hSw); go_simp; try (with_reducible rfl)
  try simp only [Act.put, nz1, nz2, nz3]
  refine tkH (v := ?_) 1 ⟨some 29, _, _, _, _, _⟩ rfl (Or.inl ⟨by rfl, ?_⟩) ?_
  rotate_left
  · intro w hSw; (try dsimp only at hSw); go_simp; try (with_reducible rfl)
  try simp only [Act.put, nz1, nz2, nz3]
  refine tkH (v := ?_) 2 ⟨some 30, _, _, _, _, _⟩ rfl (Or.inl ⟨by rfl, ?_⟩) ?_
  rotate_left
  · intro w hSw; (try dsimp only at hSw); go_simp; try (with_reducible rfl)
  try simp only [Act.put, nz1, nz2, nz3]
  refine tkH (v := (.pointer (some ⟨C, 0, none⟩))) 3 ⟨some 31, _, _, _, _, _⟩ rfl (yields_one (by rfl) 28 _ rfl ⟨B, 548, none⟩ rfl _ _ (fun W' hS => hS.cell (i := 548) (by omega)) Try.underlying28 rfl) ?_
  try simp only [Act.put, nz1, nz2, nz3]
  refine tkH (v := ?_) 4 ⟨some 32, _, _, _, _, _⟩ rfl (Or.inl ⟨by rfl, ?_⟩) ?_
  rotate_left
  · intro w hSw; (try dsimp only at hSw); go_simp; try (with_reducible rfl)
  try simp only [Act.put, nz1, nz2, nz3]
  refine tkH (v := ?_) 5 ⟨some 33, _, _, _, _, _⟩ rfl (Or.inl ⟨by rfl, ?_⟩) ?_
  rotate_left
  · intro w hSw; (try dsimp only at hSw); go_simp; try (with_reducible rfl)
  try simp only [Act.put, nz1, nz2, nz3]
  refine tkH (v := ?_) 6 ⟨some 34, _, _, _, _, _⟩ rfl (Or.inl ⟨by rfl, ?_⟩) ?_
  rotate_left
  · intro w hSw; (try dsimp only at hSw); go_simp; try (with_reducible rfl)
  try simp only [Act.put, nz1, nz2, nz3]
  refine tkH (v := (.int .i64 s.round)) 7 ⟨some 35, _, _, _, _, _⟩ rfl (yields_one (by rfl) 3 _ rfl ⟨B, 3, none⟩ rfl _ _ (fun W' hS => hS.cell (i := 3) (by omega)) Try.underlying3 rfl) ?_
  try simp only [Act.put, nz1, nz2, nz3]
  refine wpAnyH_ready (rs := [8]) (by kernel_rfl) (by simp) ?_
  refine (AllReadyH.cons (o := ⟨some 36, _, _, _, _, _⟩) rfl (fun K hK => ?_) AllReadyH.nil)
  (try rw [if_pos (by rfl)])
  go_simp
  refine (HAH.out _ hR).mono ?_
  rintro e Wn ⟨rfl, hbn⟩
  replace hR := hR.below hbn
  replace hC := hC.trans (Chg.ofBelow hbn)
  clear hbn
  try dsimp only
  refine hK.out _ _ (hR) (fun hHeld => ?_)
  clear hK K
  try simp only [Act.put, nz1, nz2, nz3]
  refine tkH (v := ?_) 9 ⟨some 27, _, _, _, _, _⟩ rfl (Or.inl ⟨by rfl, ?_⟩) ?_
  rotate_left
  · intro w hSw; (try dsimp only at hSw); go_simp; try (with_reducible rfl)
  try simp only [Act.put, nz1, nz2, nz3]
  refine tkH (v := ?_) 10 ⟨some 37, _, _, _, _, _⟩ rfl (Or.inl ⟨by rfl, ?_⟩) ?_
  rotate_left
  · intro w hSw; (try dsimp only at hSw); go_simp; try (with_reducible rfl)
  try simp only [Act.put, nz1, nz2, nz3]
  refine tkH (v := ?_) 11 ⟨some 38, _, _, _, _, _⟩ rfl (Or.inl ⟨by rfl, ?_⟩) ?_
  rotate_left
  · intro w hSw; (try dsimp only at hSw); go_simp; try (with_reducible rfl)
  try simp only [Act.put, nz1, nz2, nz3]
  refine tkH (v := ?_) 12 ⟨some 7, _, _, _, _, _⟩ rfl (Or.inl ⟨by rfl, ?_⟩) ?_
  rotate_left
  · intro w hSw; (try dsimp only at hSw); go_simp; try (with_reducible rfl)
  try simp only [Act.put, nz1, nz2, nz3]
  refine tkH (v := ?_) 13 ⟨some 8, _, _, _, _, _⟩ rfl (Or.inl ⟨by rfl, ?_⟩) ?_
  rotate_left
  · intro w hSw; (try dsimp only at hSw); go_simp; try (with_reducible rfl)
  try simp only [Act.put, nz1, nz2, nz3]
  refine wpAnyH_done (by kernel_rfl) ?_ _
  go_upto_region 11 with (first
    | (go_at_call 77; refine (HCH.out _ hR).mono ?_; rintro e Wn ⟨rfl, hbn⟩; replace hR := hR.below hbn; replace hC := hC.trans (Chg.ofBelow hbn); clear hbn)
    | (guard_target = wpList _ _ _ (Oper.mk _ (.store 24 _ _) _ _ _ _ :: _) _ _; refine wpList_store_idv rfl _ _ rfl Wn.heap.size (zeroId) rfl rfl zeroId_ok 24 _ (Blk.newAt _ _ rfl rfl) rfl ?_; intro W3 hS3 hz3 hb3 hk3; have hbn := (((Below.refl _ Wn).alloc (Nat.le_refl _) _).trans hb3); clear hb3 hk3 hz3; replace hR := hR.below hbn; replace hC := hC.trans (Chg.ofBelow hbn); clear hbn; clear hS3))
  have c3 := hR.cell (i := 3) (by omega)
  change _ = some (Value.int IntKind.i64 s.round) at c3
  go_upto_region 12 with (first
    | (go_at_call 78; refine (HSU.out _ hR).mono ?_; rintro e Wn ⟨rfl, hbn⟩; replace hR := hR.below hbn; replace hC := hC.trans (Chg.ofBelow hbn); clear hbn)
    | (guard_target = wpList _ _ _ (Oper.mk _ (.store 24 _ _) _ _ _ _ :: _) _ _; refine wpList_store_idv rfl _ _ rfl Wn.heap.size (x) rfl rfl HX.out 24 _ (Blk.newAt _ _ rfl rfl) rfl ?_; intro W3 hS3 hz3 hb3 hk3; have hbn := (((Below.refl _ Wn).alloc (Nat.le_refl _) _).trans hb3); clear hb3 hk3 hz3; replace hR := hR.below hbn; replace hC := hC.trans (Chg.ofBelow hbn); clear hbn; clear hS3))
  clear c3
  replace hR := hR.drew
  replace hC := hC.trans (Chg.ofBelow (Below.refl _ _).drew)
  refine wp_region_held_drew (S := fun W' => RoundAt W' B C M n kv s) (by kernel_rfl) ?_ (fun hHeld => ?_)
  · exact hR
  refine tkH (v := ?_) 0 ⟨some 61, _, _, _, _, _⟩ rfl (Or.inl ⟨by rfl, ?_⟩) ?_
  rotate_left
  · intro w hSw; (try dsimp only at hSw); go_simp; try (with_reducible rfl)
  try simp only [Act.put, nz1, nz2, nz3]
  refine tkH (v := ?_) 1 ⟨some 62, _, _, _, _, _⟩ rfl (Or.inl ⟨by rfl, ?_⟩) ?_
  rotate_left
  · intro w hSw; (try dsimp only at hSw); go_simp; try (with_reducible rfl)
  try simp only [Act.put, nz1, nz2, nz3]
  refine tkH (v := ?_) 2 ⟨some 63, _, _, _, _, _⟩ rfl (Or.inl ⟨by rfl, ?_⟩) ?_
  rotate_left
  · intro w hSw; (try dsimp only at hSw); go_simp; try (with_reducible rfl)
  try simp only [Act.put, nz1, nz2, nz3]
  refine tkH (v := ?_) 3 ⟨some 64, _, _, _, _, _⟩ rfl (Or.inl ⟨by rfl, ?_⟩) ?_
  rotate_left
  · intro w hSw; (try dsimp only at hSw); go_simp; try (with_reducible rfl)
  try simp only [Act.put, nz1, nz2, nz3]
  refine tkH (v := ?_) 4 ⟨some 65, _, _, _, _, _⟩ rfl (Or.inl ⟨by rfl, ?_⟩) ?_
  rotate_left
  · intro w hSw; (try dsimp only at hSw); go_simp; try (with_reducible rfl)
  try simp only [Act.put, nz1, nz2, nz3]
  refine tkH (v := (.int .i64 s.step)) 5 ⟨some 66, _, _, _, _, _⟩ rfl (yields_one (by rfl) 3 _ rfl ⟨B, 4, none⟩ rfl _ _ (fun W' hS => hS.cell (i := 4) (by omega)) Try.underlying3 rfl) ?_
  try simp only [Act.put, nz1, nz2, nz3]
  refine tkH (v := (.bool true)) 6 ⟨some 67, _, _, _, _, _⟩ rfl (yields_binR (by rfl) .neq 3 _ _ _ rfl (.int .i64 s.step) (.int .i64 0) rfl rfl _ (fun w => by rfl) (fun w => int_neq _ _ _ (by simpa using HST.out) w)) ?_
  try simp only [Act.put, nz1, nz2, nz3]
  refine tkH (v := ?_) 7 ⟨some 68, _, _, _, _, _⟩ rfl (Or.inl ⟨by rfl, ?_⟩) ?_
  rotate_left
  · intro w hSw; (try dsimp only at hSw); go_simp; try (with_reducible rfl)
  try simp only [Act.put, nz1, nz2, nz3]
  refine tkH (v := ?_) 8 ⟨some 69, _, _, _, _, _⟩ rfl (Or.inl ⟨by rfl, ?_⟩) ?_
  rotate_left
  · intro w hSw; (try dsimp only at hSw); go_simp; try (with_reducible rfl)
  try simp only [Act.put, nz1, nz2, nz3]
  refine tkH (v := ?_) 9 ⟨some 70, _, _, _, _, _⟩ rfl (Or.inl ⟨by rfl, ?_⟩) ?_
  rotate_left
  · intro w hSw; (try dsimp only at hSw); go_simp; try (with_reducible rfl)
  try simp only [Act.put, nz1, nz2, nz3]
  refine tkH (v := ?_) 10 ⟨some 71, _, _, _, _, _⟩ rfl (Or.inl ⟨by rfl, ?_⟩) ?_
  rotate_left
  · intro w hSw; (try dsimp only at hSw); go_simp; try (with_reducible rfl)
  try simp only [Act.put, nz1, nz2, nz3]
  refine tkH (v := ?_) 11 ⟨some 72, _, _, _, _, _⟩ rfl (Or.inl ⟨by rfl, ?_⟩) ?_
  rotate_left
  · intro w hSw; (try dsimp only at hSw); go_simp; try (with_reducible rfl)
  try simp only [Act.put, nz1, nz2, nz3]
  refine tkH (v := ?_) 12 ⟨some 73, _, _, _, _, _⟩ rfl (Or.inl ⟨by rfl, ?_⟩) ?_
  rotate_left
  · intro w hSw; (try dsimp only at hSw); go_simp; try (with_reducible rfl)
  try simp only [Act.put, nz1, nz2, nz3]
  refine tkH (v := (.int .i64 s.bestR)) 13 ⟨some 74, _, _, _, _, _⟩ rfl (yields_one (by rfl) 3 _ rfl ⟨B, 70, none⟩ rfl _ _ (fun W' hS => hS.cell (i := 70) (by omega)) Try.underlying3 rfl) ?_
  try simp only [Act.put, nz1, nz2, nz3]
  refine tkH (v := ?_) 14 ⟨some 75, _, _, _, _, _⟩ rfl (Or.inl ⟨by rfl, ?_⟩) ?_
  rotate_left
  · intro w hSw; (try dsimp only at hSw); go_simp; try (with_reducible rfl)
  try simp only [Act.put, nz1, nz2, nz3]
  refine tkH (v := ?_) 15 ⟨some 76, _, _, _, _, _⟩ rfl (Or.inl ⟨by rfl, ?_⟩) ?_
  rotate_left
  · intro w hSw; (try dsimp only at hSw); go_simp; try (with_reducible rfl)
  try simp only [Act.put, nz1, nz2, nz3]
  refine tkH (v := ?_) 16 ⟨some 77, _, _, _, _, _⟩ rfl (Or.inl ⟨by rfl, ?_⟩) ?_
  rotate_left
  · intro w hSw; (try dsimp only at hSw); go_simp; try (with_reducible rfl)
  try simp only [Act.put, nz1, nz2, nz3]
  refine tkH (v := (.int .i64 s.round)) 17 ⟨some 78, _, _, _, _, _⟩ rfl (yields_one (by rfl) 3 _ rfl ⟨B, 3, none⟩ rfl _ _ (fun W' hS => hS.cell (i := 3) (by omega)) Try.underlying3 rfl) ?_
  try simp only [Act.put, nz1, nz2, nz3]
  refine tkH (v := (.int .i64 (s.round + 1))) 18 ⟨some 79, _, _, _, _, _⟩ rfl (yields_binR (by rfl) .add 3 _ _ _ rfl (.int .i64 s.round) (.int .i64 1) rfl rfl _ (fun w => by rfl) (fun w => int_add1 s.round (by have := HOK.out.round; omega) w)) ?_
  try simp only [Act.put, nz1, nz2, nz3]
  refine tkH (v := (.bool false)) 19 ⟨some 80, _, _, _, _, _⟩ rfl (yields_binR (by rfl) .neq 3 _ _ _ rfl (.int .i64 s.bestR) (.int .i64 (s.round + 1)) rfl rfl _ (fun w => by rfl) (fun w => int_neq _ _ _ (by simpa using HBE.out) w)) ?_
  try simp only [Act.put, nz1, nz2, nz3]
  refine tkH (v := ?_) 20 ⟨some 81, _, _, _, _, _⟩ rfl (Or.inl ⟨by rfl, ?_⟩) ?_
  rotate_left
  · intro w hSw; (try dsimp only at hSw); go_simp; try (with_reducible rfl)
  try simp only [Act.put, nz1, nz2, nz3]
  refine wpAnyH_done (by kernel_rfl) ?_ _
  go_upto_region 14 with fail
  replace hR := hR.drew
  replace hC := hC.trans (Chg.ofBelow (Below.refl _ _).drew)
  refine wp_region_held_drew (S := fun W' => RoundAt W' B C M n kv s) (by kernel_rfl) ?_ (fun hHeld => ?_)
  · exact hR
  refine tkH (v := ?_) 0 ⟨some 85, _, _, _, _, _⟩ rfl (Or.inl ⟨by rfl, ?_⟩) ?_
  rotate_left
  · intro w hSw; (try dsimp only at hSw); go_simp; try (with_reducible rfl)
  try simp only [Act.put, nz1, nz2, nz3]
  refine tkH (v := ?_) 1 ⟨some 86, _, _, _, _, _⟩ rfl (Or.inl ⟨by rfl, ?_⟩) ?_
  rotate_left
  · intro w hSw; (try dsimp only at hSw); go_simp; try (with_reducible rfl)
  try simp only [Act.put, nz1, nz2, nz3]
  refine tkH (v := ?_) 2 ⟨some 87, _, _, _, _, _⟩ rfl (Or.inl ⟨by rfl, ?_⟩) ?_
  rotate_left
  · intro w hSw; (try dsimp only at hSw); go_simp; try (with_reducible rfl)
  try simp only [Act.put, nz1, nz2, nz3]
  refine tkH (v := (.int .i64 1)) 3 ⟨some 88, _, _, _, _, _⟩ rfl (yields_one (by rfl) 3 _ rfl ⟨B, 4, none⟩ rfl _ _ (fun W' hS => by rw [hS.cell (i := 4) (by omega)]; show some (Value.int .i64 s.step) = _; rw [HS1.out]) Try.underlying3 rfl) ?_
  try simp only [Act.put, nz1, nz2, nz3]
  refine tkH (v := ?_) 4 ⟨some 89, _, _, _, _, _⟩ rfl (Or.inl ⟨by rfl, ?_⟩) ?_
  rotate_left
  · intro w hSw; (try dsimp only at hSw); go_simp; try (with_reducible rfl)
  try simp only [Act.put, nz1, nz2, nz3]
  refine tkH (v := ?_) 5 ⟨some 90, _, _, _, _, _⟩ rfl (Or.inl ⟨by rfl, ?_⟩) ?_
  rotate_left
  · intro w hSw; (try dsimp only at hSw); go_simp; try (with_reducible rfl)
  try simp only [Act.put, nz1, nz2, nz3]
  refine tkH (v := ?_) 6 ⟨some 91, _, _, _, _, _⟩ rfl (Or.inl ⟨by rfl, ?_⟩) ?_
  rotate_left
  · intro w hSw; (try dsimp only at hSw); go_simp; try (with_reducible rfl)
  try simp only [Act.put, nz1, nz2, nz3]
  refine tkH (v := ?_) 7 ⟨some 92, _, _, _, _, _⟩ rfl (Or.inl ⟨by rfl, ?_⟩) ?_
  rotate_left
  · intro w hSw; (try dsimp only at hSw); go_simp; try (with_reducible rfl)
  try simp only [Act.put, nz1, nz2, nz3]
  refine tkH (v := ?_) 8 ⟨some 93, _, _, _, _, _⟩ rfl (Or.inl ⟨by rfl, ?_⟩) ?_
  rotate_left
  · intro w hSw; (try dsimp only at hSw); go_simp; try (with_reducible rfl)
  try simp only [Act.put, nz1, nz2, nz3]
  refine tkH (v := (.pointer (some ⟨C, 0, none⟩))) 9 ⟨some 94, _, _, _, _, _⟩ rfl (yields_one (by rfl) 28 _ rfl ⟨B, 548, none⟩ rfl _ _ (fun W' hS => hS.cell (i := 548) (by omega)) Try.underlying28 rfl) ?_
  try simp only [Act.put, nz1, nz2, nz3]
  refine tkH (v := ?_) 10 ⟨some 95, _, _, _, _, _⟩ rfl (Or.inl ⟨by rfl, ?_⟩) ?_
  rotate_left
  · intro w hSw; (try dsimp only at hSw); go_simp; try (with_reducible rfl)
  try simp only [Act.put, nz1, nz2, nz3]
  refine tkH (v := ?_) 11 ⟨some 96, _, _, _, _, _⟩ rfl (Or.inl ⟨by rfl, ?_⟩) ?_
  rotate_left
  · intro w hSw; (try dsimp only at hSw); go_simp; try (with_reducible rfl)
  try simp only [Act.put, nz1, nz2, nz3]
  refine tkH (v := ?_) 12 ⟨some 97, _, _, _, _, _⟩ rfl (Or.inl ⟨by rfl, ?_⟩) ?_
  rotate_left
  · intro w hSw; (try dsimp only at hSw); go_simp; try (with_reducible rfl)
  try simp only [Act.put, nz1, nz2, nz3]
  refine tkH (v := (.int .i64 s.round)) 13 ⟨some 98, _, _, _, _, _⟩ rfl (yields_one (by rfl) 3 _ rfl ⟨B, 3, none⟩ rfl _ _ (fun W' hS => hS.cell (i := 3) (by omega)) Try.underlying3 rfl) ?_
  try simp only [Act.put, nz1, nz2, nz3]
  refine tkH (v := ?_) 16 ⟨some 101, _, _, _, _, _⟩ rfl (Or.inl ⟨by rfl, ?_⟩) ?_
  rotate_left
  · intro w hSw; (try dsimp only at hSw); go_simp; try (with_reducible rfl)
  try simp only [Act.put, nz1, nz2, nz3]
  refine tkH (v := ?_) 17 ⟨some 102, _, _, _, _, _⟩ rfl (Or.inl ⟨by rfl, ?_⟩) ?_
  rotate_left
  · intro w hSw; (try dsimp only at hSw); go_simp; try (with_reducible rfl)
  try simp only [Act.put, nz1, nz2, nz3]
  refine tkH (v := ?_) 18 ⟨some 103, _, _, _, _, _⟩ rfl (Or.inl ⟨by rfl, ?_⟩) ?_
  rotate_left
  · intro w hSw; (try dsimp only at hSw); go_simp; try (with_reducible rfl)
  try simp only [Act.put, nz1, nz2, nz3]
  refine tkH (v := (.int .i64 (s.voters : Int))) 19 ⟨some 104, _, _, _, _, _⟩ rfl (yields_one (by rfl) 3 _ rfl ⟨B, 0, none⟩ rfl _ _ (fun W' hS => hS.cell (i := 0) (by omega)) Try.underlying3 rfl) ?_
  try simp only [Act.put, nz1, nz2, nz3]
  refine wpAnyH_ready (rs := [14]) (by kernel_rfl) (by simp) ?_
  refine (AllReadyH.cons (o := ⟨some 99, _, _, _, _, _⟩) rfl (fun K hK => ?_) AllReadyH.nil)
  (try rw [if_pos (by rfl)])
  go_simp
  refine (HNI.out _ hR).mono ?_
  rintro e Wn ⟨rfl, hbn⟩
  replace hR := hR.below hbn
  replace hC := hC.trans (Chg.ofBelow hbn)
  clear hbn
  try dsimp only
  refine hK.out _ _ (hR) (fun hHeld => ?_)
  clear hK K
  try simp only [Act.put, nz1, nz2, nz3]
  refine wpAnyH_ready (rs := [15]) (by kernel_rfl) (by simp) ?_
  refine (AllReadyH.cons (o := ⟨some 100, _, _, _, _, _⟩) rfl (fun K hK => ?_) AllReadyH.nil)
  (try rw [if_pos (by rfl)])
  go_simp
  refine (HFO.out _ hR).mono ?_
  rintro e Wn ⟨rfl, hbn⟩
  replace hR := hR.below hbn
  replace hC := hC.trans (Chg.ofBelow hbn)
  clear hbn
  try dsimp only
  refine hK.out _ _ (hR) (fun hHeld => ?_)
  clear hK K
  try simp only [Act.put, nz1, nz2, nz3]
  refine wpAnyH_ready (rs := [20]) (by kernel_rfl) (by simp) ?_
  refine (AllReadyH.cons (o := ⟨some 105, _, _, _, _, _⟩) rfl (fun K hK => ?_) AllReadyH.nil)
  (try rw [if_pos (by rfl)])
  go_simp
  refine (HND.out _ hR).mono ?_
  rintro e Wn ⟨rfl, hbn⟩
  replace hR := hR.below hbn
  replace hC := hC.trans (Chg.ofBelow hbn)
  clear hbn
  try dsimp only
  refine hK.out _ _ (hR) (fun hHeld => ?_)
  clear hK K
  try simp only [Act.put, nz1, nz2, nz3]
  refine tkH (v := (.bool false)) 21 ⟨some 106, _, _, _, _, _⟩ rfl (yields_binR (by rfl) .geq 3 _ _ _ rfl (.int .i64 (forN s.voters s.votes s.round 0 nilId : Int)) (.int .i64 (need s.voters)) rfl rfl _ (fun w => by rfl) (fun w => int_geq _ _ _ HFW.out w)) ?_
  try simp only [Act.put, nz1, nz2, nz3]
  refine tkH (v := ?_) 22 ⟨some 107, _, _, _, _, _⟩ rfl (Or.inl ⟨by rfl, ?_⟩) ?_
  rotate_left
  · intro w hSw; (try dsimp only at hSw); go_simp; try (with_reducible rfl)
  try simp only [Act.put, nz1, nz2, nz3]
  refine wpAnyH_done (by kernel_rfl) ?_ _
  go_wp2_with fail
  go_ret2
  exact ⟨⟨_, by rw [HFIN.out]; rfl, by rw [HFIN.out]; exact ownA_nil _ _⟩, by rw [HFIN.out]; exact hR.mono (Nat.le_succ n), hC⟩
set_option maxRecDepth 100000 in
set_option maxHeartbeats 8000000 in
theorem next_same_many {W : World} {B C M n : Nat} {kv : Value} {s : RdS} (h : RoundAt W B C M n kv s) (hr : 0 ≤ s.round) (hn : n < maxLen) (hag : agreedS s = none) (hah : aheadO s.voters s.votes s.round = none) (hch : choiceS s = none) (x : List UInt8) (hx : IdOk x) (hsu : sureS s s.round 0 = some x) (hst : s.step ≠ 0) (hbe : s.bestR = s.round + 1) (hs1 : s.step = 1) (hfw : decide (need s.voters ≤ (forN s.voters s.votes s.round 0 nilId : Int)) = true) : Calls Try.prog 70 #[.pointer (some ⟨B, 0, none⟩)] W fun e w' => (∃ v, e = .returned (.tuple #[v, .bool (nextS s).isSome]) ∧ OwnA W.heap.size w' v (((nextS s).map (·.2)).getD [])) ∧ RoundAt w' B C M (n + 1) kv (((nextS s).map (·.1)).getD s) ∧ Chg W w' B M kv kv := by
  have HFIN : Hid (nextS s = some (castS s 1 nilId, castA s 1 nilId)) := Lib.hid (by unfold nextS; have h0 : sure0 s = none := (by unfold sure0; rw [if_neg (fun e => e.2 hbe)]); have h1 : nilDue s = true := (by unfold nilDue; rw [hfw, decide_eq_true hs1]; rfl); rw [hag, hah, hch]; dsimp only; rw [h0]; dsimp only; rw [h1]; rfl)
  have hR := h
  have hC := Chg.refl W B M kv
  have HN := Lib.hid hn
  have HR0 := Lib.hid hr
  have HWR : Hid (wfi s.round) := Lib.hid (wfi_small (by omega) (by have := h.ok.round; omega))
  have HOK := Lib.hid h.ok
  have HX := Lib.hid hx
  have HST := Lib.hid hst
  have HBE := Lib.hid hbe
  have HS1 := Lib.hid hs1
  have HFW := Lib.hid hfw
  have HAG : Hid (∀ W', RoundAt W' B C M n kv s → Calls Try.prog 76 #[.pointer (some ⟨B, 0, none⟩)] W' fun e w' => e = .returned (.tuple #[.int .i64 0, idv zeroId, .bool false]) ∧ Below W'.heap.size W' w') := Lib.hid fun W' hR => by have := agreed_any hR; rwa [hag] at this
  have HAH : Hid (∀ W', RoundAt W' B C M n kv s → Calls Try.prog 28 #[.pointer (some ⟨C, 0, none⟩), .int .i64 s.round] W' fun e w' => e = .returned (.tuple #[.int .i64 0, .bool false]) ∧ Below W'.heap.size W' w') := Lib.hid fun W' hR => by have := ahead_any hR.cnt s.round HWR.out HOK.out.voters.2.1 HOK.out.voters.2.2; rwa [hah] at this
  have HCH : Hid (∀ W', RoundAt W' B C M n kv s → Calls Try.prog 77 #[.pointer (some ⟨B, 0, none⟩)] W' fun e w' => e = .returned (.tuple #[idv zeroId, .bool false]) ∧ Below W'.heap.size W' w') := Lib.hid fun W' hR => by have := choice_any hR; rwa [hch] at this
  have HSU : Hid (∀ W', RoundAt W' B C M n kv s → Calls Try.prog 78 #[.pointer (some ⟨B, 0, none⟩), .int .i64 s.round, .int .i64 0] W' fun e w' => e = .returned (.tuple #[idv (x), .bool true]) ∧ Below W'.heap.size W' w') := Lib.hid fun W' hR => by have := sureR_any hR s.round 0 HWR.out (wfi_small (by omega) (by omega)); rwa [hsu] at this
  have HNI : Hid (∀ W', RoundAt W' B C M n kv s → Calls Try.prog 35 #[] W' fun e w' => e = .returned (idv nilId) ∧ Below W'.heap.size W' w') := Lib.hid fun W' hR => nil_any W'
  have HFO : Hid (∀ W', RoundAt W' B C M n kv s → Calls Try.prog 26 #[.pointer (some ⟨C, 0, none⟩), .int .i64 s.round, .int .i64 0, .agg (idC nilId)] W' fun e w' => e = .returned (.int .i64 (forN s.voters s.votes s.round 0 nilId : Int)) ∧ Below W'.heap.size W' w') := Lib.hid fun W' hR => for_any' hR.cnt s.round 0 nilId HWR.out (wfi_small (by omega) (by omega)) nilId_ok HOK.out.voters.2.1
  have HND : Hid (∀ W', RoundAt W' B C M n kv s → Calls Try.prog 19 #[.int .i64 (s.voters : Int)] W' fun e w' => e = .returned (.int .i64 (need s.voters)) ∧ Below W'.heap.size W' w') := Lib.hid fun W' hR => (need_any _ W').mono fun e w' ⟨h1, h2⟩ => ⟨h1, h2 ▸ Below.refl _ _⟩
  clear hag hah hch hsu hx hst hbe hs1 hfw
  clear h hn hr
  go_enter Try.func70, Try.ntmps70
  go_upto_region 5 with (first
    | (go_at_call 76; refine (HAG.out _ hR).mono ?_; rintro e Wn ⟨rfl, hbn⟩; replace hR := hR.below hbn; replace hC := hC.trans (Chg.ofBelow hbn); clear hbn)
    | (guard_target = wpList _ _ _ (Oper.mk _ (.store 24 _ _) _ _ _ _ :: _) _ _; refine wpList_store_idv rfl _ _ rfl Wn.heap.size (zeroId) rfl rfl zeroId_ok 24 _ (Blk.newAt _ _ rfl rfl) rfl ?_; intro W3 hS3 hz3 hb3 hk3; have hbn := (((Below.refl _ Wn).alloc (Nat.le_refl _) _).trans hb3); clear hb3 hk3 hz3; replace hR := hR.below hbn; replace hC := hC.trans (Chg.ofBelow hbn); clear hbn; clear hS3))
  replace hR := hR.drew
  replace hC := hC.trans (Chg.ofBelow (Below.refl _ _).drew)
  refine wp_region_held_drew (S := fun W' => RoundAt W' B C M n kv s) (by kernel_rfl) ?_ (fun hHeld => ?_)
  · exact hR
  refine tkH (v := ?_) 0 ⟨some 28, _, _, _, _, _⟩ rfl (Or.inl ⟨by rfl, ?_⟩) ?_
  rotate_left
  · intro w hSw; (try dsimp only at hSw); go_simp; try (with_reducible rfl)
  try simp only [Act.put, nz1, nz2, nz3]
  refine tkH (v := ?_) 1 ⟨some 29, _, _, _, _, _⟩ rfl (Or.inl ⟨by rfl, ?_⟩) ?_
  rotate_left
  · intro w hSw; (try dsimp only at hSw); go_simp; try (with_reducible rfl)
  try simp only [Act.put, nz1, nz2, nz3]
  refine tkH (v := ?_) 2 ⟨some 30, _, _, _, _, _⟩ rfl (Or.inl ⟨by rfl, ?_⟩) ?_
  rotate_left
  · intro w hSw; (try dsimp only at hSw); go_simp; try (with_reducible rfl)
  try simp only [Act.put, nz1, nz2, nz3]
  refine tkH (v := (.pointer (some ⟨C, 0, none⟩))) 3 ⟨some 31, _, _, _, _, _⟩ rfl (yields_one (by rfl) 28 _ rfl ⟨B, 548, none⟩ rfl _ _ (fun W' hS => hS.cell (i := 548) (by omega)) Try.underlying28 rfl) ?_
  try simp only [Act.put, nz1, nz2, nz3]
  refine tkH (v := ?_) 4 ⟨some 32, _, _, _, _, _⟩ rfl (Or.inl ⟨by rfl, ?_⟩) ?_
  rotate_left
  · intro w hSw; (try dsimp only at hSw); go_simp; try (with_reducible rfl)
  try simp only [Act.put, nz1, nz2, nz3]
  refine tkH (v := ?_) 5 ⟨some 33, _, _, _, _, _⟩ rfl (Or.inl ⟨by rfl, ?_⟩) ?_
  rotate_left
  · intro w hSw; (try dsimp only at hSw); go_simp; try (with_reducible rfl)
  try simp only [Act.put, nz1, nz2, nz3]
  refine tkH (v := ?_) 6 ⟨some 34, _, _, _, _, _⟩ rfl (Or.inl ⟨by rfl, ?_⟩) ?_
  rotate_left
  · intro w hSw; (try dsimp only at hSw); go_simp; try (with_reducible rfl)
  try simp only [Act.put, nz1, nz2, nz3]
  refine tkH (v := (.int .i64 s.round)) 7 ⟨some 35, _, _, _, _, _⟩ rfl (yields_one (by rfl) 3 _ rfl ⟨B, 3, none⟩ rfl _ _ (fun W' hS => hS.cell (i := 3) (by omega)) Try.underlying3 rfl) ?_
  try simp only [Act.put, nz1, nz2, nz3]
  refine wpAnyH_ready (rs := [8]) (by kernel_rfl) (by simp) ?_
  refine (AllReadyH.cons (o := ⟨some 36, _, _, _, _, _⟩) rfl (fun K hK => ?_) AllReadyH.nil)
  (try rw [if_pos (by rfl)])
  go_simp
  refine (HAH.out _ hR).mono ?_
  rintro e Wn ⟨rfl, hbn⟩
  replace hR := hR.below hbn
  replace hC := hC.trans (Chg.ofBelow hbn)
  clear hbn
  try dsimp only
  refine hK.out _ _ (hR) (fun hHeld => ?_)
  clear hK K
  try simp only [Act.put, nz1, nz2, nz3]
  refine tkH (v := ?_) 9 ⟨some 27, _, _, _, _, _⟩ rfl (Or.inl ⟨by rfl, ?_⟩) ?_
  rotate_left
  · intro w hSw; (try dsimp only at hSw); go_simp; try (with_reducible rfl)
  try simp only [Act.put, nz1, nz2, nz3]
  refine tkH (v := ?_) 10 ⟨some 37, _, _, _, _, _⟩ rfl (Or.inl ⟨by rfl, ?_⟩) ?_
  rotate_left
  · intro w hSw; (try dsimp only at hSw); go_simp; try (with_reducible rfl)
  try simp only [Act.put, nz1, nz2, nz3]
  refine tkH (v := ?_) 11 ⟨some 38, _, _, _, _, _⟩ rfl (Or.inl ⟨by rfl, ?_⟩) ?_
  rotate_left
  · intro w hSw; (try dsimp only at hSw); go_simp; try (with_reducible rfl)
  try simp only [Act.put, nz1, nz2, nz3]
  refine tkH (v := ?_) 12 ⟨some 7, _, _, _, _, _⟩ rfl (Or.inl ⟨by rfl, ?_⟩) ?_
  rotate_left
  · intro w hSw; (try dsimp only at hSw); go_simp; try (with_reducible rfl)
  try simp only [Act.put, nz1, nz2, nz3]
  refine tkH (v := ?_) 13 ⟨some 8, _, _, _, _, _⟩ rfl (Or.inl ⟨by rfl, ?_⟩) ?_
  rotate_left
  · intro w hSw; (try dsimp only at hSw); go_simp; try (with_reducible rfl)
  try simp only [Act.put, nz1, nz2, nz3]
  refine wpAnyH_done (by kernel_rfl) ?_ _
  go_upto_region 11 with (first
    | (go_at_call 77; refine (HCH.out _ hR).mono ?_; rintro e Wn ⟨rfl, hbn⟩; replace hR := hR.below hbn; replace hC := hC.trans (Chg.ofBelow hbn); clear hbn)
    | (guard_target = wpList _ _ _ (Oper.mk _ (.store 24 _ _) _ _ _ _ :: _) _ _; refine wpList_store_idv rfl _ _ rfl Wn.heap.size (zeroId) rfl rfl zeroId_ok 24 _ (Blk.newAt _ _ rfl rfl) rfl ?_; intro W3 hS3 hz3 hb3 hk3; have hbn := (((Below.refl _ Wn).alloc (Nat.le_refl _) _).trans hb3); clear hb3 hk3 hz3; replace hR := hR.below hbn; replace hC := hC.trans (Chg.ofBelow hbn); clear hbn; clear hS3))
  have c3 := hR.cell (i := 3) (by omega)
  change _ = some (Value.int IntKind.i64 s.round) at c3
  go_upto_region 12 with (first
    | (go_at_call 78; refine (HSU.out _ hR).mono ?_; rintro e Wn ⟨rfl, hbn⟩; replace hR := hR.below hbn; replace hC := hC.trans (Chg.ofBelow hbn); clear hbn)
    | (guard_target = wpList _ _ _ (Oper.mk _ (.store 24 _ _) _ _ _ _ :: _) _ _; refine wpList_store_idv rfl _ _ rfl Wn.heap.size (x) rfl rfl HX.out 24 _ (Blk.newAt _ _ rfl rfl) rfl ?_; intro W3 hS3 hz3 hb3 hk3; have hbn := (((Below.refl _ Wn).alloc (Nat.le_refl _) _).trans hb3); clear hb3 hk3 hz3; replace hR := hR.below hbn; replace hC := hC.trans (Chg.ofBelow hbn); clear hbn; clear hS3))
  clear c3
  replace hR := hR.drew
  replace hC := hC.trans (Chg.ofBelow (Below.refl _ _).drew)
  refine wp_region_held_drew (S := fun W' => RoundAt W' B C M n kv s) (by kernel_rfl) ?_ (fun hHeld => ?_)
  · exact hR
  refine tkH (v := ?_) 0 ⟨some 61, _, _, _, _, _⟩ rfl (Or.inl ⟨by rfl, ?_⟩) ?_
  rotate_left
  · intro w hSw; (try dsimp only at hSw); go_simp; try (with_reducible rfl)
  try simp only [Act.put, nz1, nz2, nz3]
  refine tkH (v := ?_) 1 ⟨some 62, _, _, _, _, _⟩ rfl (Or.inl ⟨by rfl, ?_⟩) ?_
  rotate_left
  · intro w hSw; (try dsimp only at hSw); go_simp; try (with_reducible rfl)
  try simp only [Act.put, nz1, nz2, nz3]
  refine tkH (v := ?_) 2 ⟨some 63, _, _, _, _, _⟩ rfl (Or.inl ⟨by rfl, ?_⟩) ?_
  rotate_left
  · intro w hSw; (try dsimp only at hSw); go_simp; try (with_reducible rfl)
  try simp only [Act.put, nz1, nz2, nz3]
  refine tkH (v := ?_) 3 ⟨some 64, _, _, _, _, _⟩ rfl (Or.inl ⟨by rfl, ?_⟩) ?_
  rotate_left
  · intro w hSw; (try dsimp only at hSw); go_simp; try (with_reducible rfl)
  try simp only [Act.put, nz1, nz2, nz3]
  refine tkH (v := ?_) 4 ⟨some 65, _, _, _, _, _⟩ rfl (Or.inl ⟨by rfl, ?_⟩) ?_
  rotate_left
  · intro w hSw; (try dsimp only at hSw); go_simp; try (with_reducible rfl)
  try simp only [Act.put, nz1, nz2, nz3]
  refine tkH (v := (.int .i64 s.step)) 5 ⟨some 66, _, _, _, _, _⟩ rfl (yields_one (by rfl) 3 _ rfl ⟨B, 4, none⟩ rfl _ _ (fun W' hS => hS.cell (i := 4) (by omega)) Try.underlying3 rfl) ?_
  try simp only [Act.put, nz1, nz2, nz3]
  refine tkH (v := (.bool true)) 6 ⟨some 67, _, _, _, _, _⟩ rfl (yields_binR (by rfl) .neq 3 _ _ _ rfl (.int .i64 s.step) (.int .i64 0) rfl rfl _ (fun w => by rfl) (fun w => int_neq _ _ _ (by simpa using HST.out) w)) ?_
  try simp only [Act.put, nz1, nz2, nz3]
  refine tkH (v := ?_) 7 ⟨some 68, _, _, _, _, _⟩ rfl (Or.inl ⟨by rfl, ?_⟩) ?_
  rotate_left
  · intro w hSw; (try dsimp only at hSw); go_simp; try (with_reducible rfl)
  try simp only [Act.put, nz1, nz2, nz3]
  refine tkH (v := ?_) 8 ⟨some 69, _, _, _, _, _⟩ rfl (Or.inl ⟨by rfl, ?_⟩) ?_
  rotate_left
  · intro w hSw; (try dsimp only at hSw); go_simp; try (with_reducible rfl)
  try simp only [Act.put, nz1, nz2, nz3]
  refine tkH (v := ?_) 9 ⟨some 70, _, _, _, _, _⟩ rfl (Or.inl ⟨by rfl, ?_⟩) ?_
  rotate_left
  · intro w hSw; (try dsimp only at hSw); go_simp; try (with_reducible rfl)
  try simp only [Act.put, nz1, nz2, nz3]
  refine tkH (v := ?_) 10 ⟨some 71, _, _, _, _, _⟩ rfl (Or.inl ⟨by rfl, ?_⟩) ?_
  rotate_left
  · intro w hSw; (try dsimp only at hSw); go_simp; try (with_reducible rfl)
  try simp only [Act.put, nz1, nz2, nz3]
  refine tkH (v := ?_) 11 ⟨some 72, _, _, _, _, _⟩ rfl (Or.inl ⟨by rfl, ?_⟩) ?_
  rotate_left
  · intro w hSw; (try dsimp only at hSw); go_simp; try (with_reducible rfl)
  try simp only [Act.put, nz1, nz2, nz3]
  refine tkH (v := ?_) 12 ⟨some 73, _, _, _, _, _⟩ rfl (Or.inl ⟨by rfl, ?_⟩) ?_
  rotate_left
  · intro w hSw; (try dsimp only at hSw); go_simp; try (with_reducible rfl)
  try simp only [Act.put, nz1, nz2, nz3]
  refine tkH (v := (.int .i64 s.bestR)) 13 ⟨some 74, _, _, _, _, _⟩ rfl (yields_one (by rfl) 3 _ rfl ⟨B, 70, none⟩ rfl _ _ (fun W' hS => hS.cell (i := 70) (by omega)) Try.underlying3 rfl) ?_
  try simp only [Act.put, nz1, nz2, nz3]
  refine tkH (v := ?_) 14 ⟨some 75, _, _, _, _, _⟩ rfl (Or.inl ⟨by rfl, ?_⟩) ?_
  rotate_left
  · intro w hSw; (try dsimp only at hSw); go_simp; try (with_reducible rfl)
  try simp only [Act.put, nz1, nz2, nz3]
  refine tkH (v := ?_) 15 ⟨some 76, _, _, _, _, _⟩ rfl (Or.inl ⟨by rfl, ?_⟩) ?_
  rotate_left
  · intro w hSw; (try dsimp only at hSw); go_simp; try (with_reducible rfl)
  try simp only [Act.put, nz1, nz2, nz3]
  refine tkH (v := ?_) 16 ⟨some 77, _, _, _, _, _⟩ rfl (Or.inl ⟨by rfl, ?_⟩) ?_
  rotate_left
  · intro w hSw; (try dsimp only at hSw); go_simp; try (with_reducible rfl)
  try simp only [Act.put, nz1, nz2, nz3]
  refine tkH (v := (.int .i64 s.round)) 17 ⟨some 78, _, _, _, _, _⟩ rfl (yields_one (by rfl) 3 _ rfl ⟨B, 3, none⟩ rfl _ _ (fun W' hS => hS.cell (i := 3) (by omega)) Try.underlying3 rfl) ?_
  try simp only [Act.put, nz1, nz2, nz3]
  refine tkH (v := (.int .i64 (s.round + 1))) 18 ⟨some 79, _, _, _, _, _⟩ rfl (yields_binR (by rfl) .add 3 _ _ _ rfl (.int .i64 s.round) (.int .i64 1) rfl rfl _ (fun w => by rfl) (fun w => int_add1 s.round (by have := HOK.out.round; omega) w)) ?_
  try simp only [Act.put, nz1, nz2, nz3]
  refine tkH (v := (.bool false)) 19 ⟨some 80, _, _, _, _, _⟩ rfl (yields_binR (by rfl) .neq 3 _ _ _ rfl (.int .i64 s.bestR) (.int .i64 (s.round + 1)) rfl rfl _ (fun w => by rfl) (fun w => int_neq _ _ _ (by simpa using HBE.out) w)) ?_
  try simp only [Act.put, nz1, nz2, nz3]
  refine tkH (v := ?_) 20 ⟨some 81, _, _, _, _, _⟩ rfl (Or.inl ⟨by rfl, ?_⟩) ?_
  rotate_left
  · intro w hSw; (try dsimp only at hSw); go_simp; try (with_reducible rfl)
  try simp only [Act.put, nz1, nz2, nz3]
  refine wpAnyH_done (by kernel_rfl) ?_ _
  go_upto_region 14 with fail
  replace hR := hR.drew
  replace hC := hC.trans (Chg.ofBelow (Below.refl _ _).drew)
  refine wp_region_held_drew (S := fun W' => RoundAt W' B C M n kv s) (by kernel_rfl) ?_ (fun hHeld => ?_)
  · exact hR
  refine tkH (v := ?_) 0 ⟨some 85, _, _, _, _, _⟩ rfl (Or.inl ⟨by rfl, ?_⟩) ?_
  rotate_left
  · intro w hSw; (try dsimp only at hSw); go_simp; try (with_reducible rfl)
  try simp only [Act.put, nz1, nz2, nz3]
  refine tkH (v := ?_) 1 ⟨some 86, _, _, _, _, _⟩ rfl (Or.inl ⟨by rfl, ?_⟩) ?_
  rotate_left
  · intro w hSw; (try dsimp only at hSw); go_simp; try (with_reducible rfl)
  try simp only [Act.put, nz1, nz2, nz3]
  refine tkH (v := ?_) 2 ⟨some 87, _, _, _, _, _⟩ rfl (Or.inl ⟨by rfl, ?_⟩) ?_
  rotate_left
  · intro w hSw; (try dsimp only at hSw); go_simp; try (with_reducible rfl)
  try simp only [Act.put, nz1, nz2, nz3]
  refine tkH (v := (.int .i64 1)) 3 ⟨some 88, _, _, _, _, _⟩ rfl (yields_one (by rfl) 3 _ rfl ⟨B, 4, none⟩ rfl _ _ (fun W' hS => by rw [hS.cell (i := 4) (by omega)]; show some (Value.int .i64 s.step) = _; rw [HS1.out]) Try.underlying3 rfl) ?_
  try simp only [Act.put, nz1, nz2, nz3]
  refine tkH (v := ?_) 4 ⟨some 89, _, _, _, _, _⟩ rfl (Or.inl ⟨by rfl, ?_⟩) ?_
  rotate_left
  · intro w hSw; (try dsimp only at hSw); go_simp; try (with_reducible rfl)
  try simp only [Act.put, nz1, nz2, nz3]
  refine tkH (v := ?_) 5 ⟨some 90, _, _, _, _, _⟩ rfl (Or.inl ⟨by rfl, ?_⟩) ?_
  rotate_left
  · intro w hSw; (try dsimp only at hSw); go_simp; try (with_reducible rfl)
  try simp only [Act.put, nz1, nz2, nz3]
  refine tkH (v := ?_) 6 ⟨some 91, _, _, _, _, _⟩ rfl (Or.inl ⟨by rfl, ?_⟩) ?_
  rotate_left
  · intro w hSw; (try dsimp only at hSw); go_simp; try (with_reducible rfl)
  try simp only [Act.put, nz1, nz2, nz3]
  refine tkH (v := ?_) 7 ⟨some 92, _, _, _, _, _⟩ rfl (Or.inl ⟨by rfl, ?_⟩) ?_
  rotate_left
  · intro w hSw; (try dsimp only at hSw); go_simp; try (with_reducible rfl)
  try simp only [Act.put, nz1, nz2, nz3]
  refine tkH (v := ?_) 8 ⟨some 93, _, _, _, _, _⟩ rfl (Or.inl ⟨by rfl, ?_⟩) ?_
  rotate_left
  · intro w hSw; (try dsimp only at hSw); go_simp; try (with_reducible rfl)
  try simp only [Act.put, nz1, nz2, nz3]
  refine tkH (v := (.pointer (some ⟨C, 0, none⟩))) 9 ⟨some 94, _, _, _, _, _⟩ rfl (yields_one (by rfl) 28 _ rfl ⟨B, 548, none⟩ rfl _ _ (fun W' hS => hS.cell (i := 548) (by omega)) Try.underlying28 rfl) ?_
  try simp only [Act.put, nz1, nz2, nz3]
  refine tkH (v := ?_) 10 ⟨some 95, _, _, _, _, _⟩ rfl (Or.inl ⟨by rfl, ?_⟩) ?_
  rotate_left
  · intro w hSw; (try dsimp only at hSw); go_simp; try (with_reducible rfl)
  try simp only [Act.put, nz1, nz2, nz3]
  refine tkH (v := ?_) 11 ⟨some 96, _, _, _, _, _⟩ rfl (Or.inl ⟨by rfl, ?_⟩) ?_
  rotate_left
  · intro w hSw; (try dsimp only at hSw); go_simp; try (with_reducible rfl)
  try simp only [Act.put, nz1, nz2, nz3]
  refine tkH (v := ?_) 12 ⟨some 97, _, _, _, _, _⟩ rfl (Or.inl ⟨by rfl, ?_⟩) ?_
  rotate_left
  · intro w hSw; (try dsimp only at hSw); go_simp; try (with_reducible rfl)
  try simp only [Act.put, nz1, nz2, nz3]
  refine tkH (v := (.int .i64 s.round)) 13 ⟨some 98, _, _, _, _, _⟩ rfl (yields_one (by rfl) 3 _ rfl ⟨B, 3, none⟩ rfl _ _ (fun W' hS => hS.cell (i := 3) (by omega)) Try.underlying3 rfl) ?_
  try simp only [Act.put, nz1, nz2, nz3]
  refine tkH (v := ?_) 16 ⟨some 101, _, _, _, _, _⟩ rfl (Or.inl ⟨by rfl, ?_⟩) ?_
  rotate_left
  · intro w hSw; (try dsimp only at hSw); go_simp; try (with_reducible rfl)
  try simp only [Act.put, nz1, nz2, nz3]
  refine tkH (v := ?_) 17 ⟨some 102, _, _, _, _, _⟩ rfl (Or.inl ⟨by rfl, ?_⟩) ?_
  rotate_left
  · intro w hSw; (try dsimp only at hSw); go_simp; try (with_reducible rfl)
  try simp only [Act.put, nz1, nz2, nz3]
  refine tkH (v := ?_) 18 ⟨some 103, _, _, _, _, _⟩ rfl (Or.inl ⟨by rfl, ?_⟩) ?_
  rotate_left
  · intro w hSw; (try dsimp only at hSw); go_simp; try (with_reducible rfl)
  try simp only [Act.put, nz1, nz2, nz3]
  refine tkH (v := (.int .i64 (s.voters : Int))) 19 ⟨some 104, _, _, _, _, _⟩ rfl (yields_one (by rfl) 3 _ rfl ⟨B, 0, none⟩ rfl _ _ (fun W' hS => hS.cell (i := 0) (by omega)) Try.underlying3 rfl) ?_
  try simp only [Act.put, nz1, nz2, nz3]
  refine wpAnyH_ready (rs := [14]) (by kernel_rfl) (by simp) ?_
  refine (AllReadyH.cons (o := ⟨some 99, _, _, _, _, _⟩) rfl (fun K hK => ?_) AllReadyH.nil)
  (try rw [if_pos (by rfl)])
  go_simp
  refine (HNI.out _ hR).mono ?_
  rintro e Wn ⟨rfl, hbn⟩
  replace hR := hR.below hbn
  replace hC := hC.trans (Chg.ofBelow hbn)
  clear hbn
  try dsimp only
  refine hK.out _ _ (hR) (fun hHeld => ?_)
  clear hK K
  try simp only [Act.put, nz1, nz2, nz3]
  refine wpAnyH_ready (rs := [15]) (by kernel_rfl) (by simp) ?_
  refine (AllReadyH.cons (o := ⟨some 100, _, _, _, _, _⟩) rfl (fun K hK => ?_) AllReadyH.nil)
  (try rw [if_pos (by rfl)])
  go_simp
  refine (HFO.out _ hR).mono ?_
  rintro e Wn ⟨rfl, hbn⟩
  replace hR := hR.below hbn
  replace hC := hC.trans (Chg.ofBelow hbn)
  clear hbn
  try dsimp only
  refine hK.out _ _ (hR) (fun hHeld => ?_)
  clear hK K
  try simp only [Act.put, nz1, nz2, nz3]
  refine wpAnyH_ready (rs := [20]) (by kernel_rfl) (by simp) ?_
  refine (AllReadyH.cons (o := ⟨some 105, _, _, _, _, _⟩) rfl (fun K hK => ?_) AllReadyH.nil)
  (try rw [if_pos (by rfl)])
  go_simp
  refine (HND.out _ hR).mono ?_
  rintro e Wn ⟨rfl, hbn⟩
  replace hR := hR.below hbn
  replace hC := hC.trans (Chg.ofBelow hbn)
  clear hbn
  try dsimp only
  refine hK.out _ _ (hR) (fun hHeld => ?_)
  clear hK K
  try simp only [Act.put, nz1, nz2, nz3]
  refine tkH (v := (.bool true)) 21 ⟨some 106, _, _, _, _, _⟩ rfl (yields_binR (by rfl) .geq 3 _ _ _ rfl (.int .i64 (forN s.voters s.votes s.round 0 nilId : Int)) (.int .i64 (need s.voters)) rfl rfl _ (fun w => by rfl) (fun w => int_geq _ _ _ HFW.out w)) ?_
  try simp only [Act.put, nz1, nz2, nz3]
  refine tkH (v := ?_) 22 ⟨some 107, _, _, _, _, _⟩ rfl (Or.inl ⟨by rfl, ?_⟩) ?_
  rotate_left
  · intro w hSw; (try dsimp only at hSw); go_simp; try (with_reducible rfl)
  try simp only [Act.put, nz1, nz2, nz3]
  refine wpAnyH_done (by kernel_rfl) ?_ _
  go_wp2_with (first
    | (go_at_call 35; refine (HNI.out _ hR).mono ?_; rintro e Wn ⟨rfl, hbn⟩; replace hR := hR.below hbn; replace hC := hC.trans (Chg.ofBelow hbn); clear hbn)
    | (go_at_call 62; refine (castR_any hR 1 (.inr rfl) nilId nilId_ok HR0.out HN.out).mono ?_; rintro e Wz ⟨⟨vz, rfl, haz⟩, hrz, hcz⟩))
  go_ret2
  exact ⟨⟨_, by rw [HFIN.out]; rfl, by rw [HFIN.out]; exact haz.own.low hC.size⟩, by rw [HFIN.out]; exact hrz, hC.trans hcz⟩
theorem next_any {W : World} {B C M n : Nat} {kv : Value} {s : RdS} (h : RoundAt W B C M n kv s) (hr : 0 ≤ s.round) (hn : n < maxLen) : Calls Try.prog 70 #[.pointer (some ⟨B, 0, none⟩)] W fun e w' => (∃ v, e = .returned (.tuple #[v, .bool (nextS s).isSome]) ∧ OwnA W.heap.size w' v (((nextS s).map (·.2)).getD [])) ∧ RoundAt w' B C M (n + 1) kv (((nextS s).map (·.1)).getD s) ∧ Chg W w' B M kv kv := by
  cases hag : agreedS s with
  | some p => exact next_done h hr hn p.1 p.2 hag
  | none =>
    cases hah : aheadO s.voters s.votes s.round with
    | some mm => exact next_ahead h hr hn hag mm hah
    | none =>
      cases hch : choiceS s with
      | some x => exact next_choice h hr hn hag hah x (choice_idOk h hr hch) hch
      | none =>
        cases hsu : sureS s s.round 0 with
        | none =>
          by_cases hs1 : s.step = 1
          · cases hfw : decide (need s.voters ≤ (forN s.voters s.votes s.round 0 nilId : Int)) with
            | false => exact next_none_few h hr hn hag hah hch hsu hs1 hfw
            | true => exact next_none_many h hr hn hag hah hch hsu hs1 hfw
          · exact next_none_off h hr hn hag hah hch hsu hs1
        | some x =>
          have hx := (sureS_ok h hsu).1
          by_cases hst : s.step = 0
          · exact next_early_off h hr hn hag hah hch x hx hsu hst (by omega)
          · by_cases hbe : s.bestR = s.round + 1
            · by_cases hs1 : s.step = 1
              · cases hfw : decide (need s.voters ≤ (forN s.voters s.votes s.round 0 nilId : Int)) with
                | false => exact next_same_few h hr hn hag hah hch x hx hsu hst hbe hs1 hfw
                | true => exact next_same_many h hr hn hag hah hch x hx hsu hst hbe hs1 hfw
              · exact next_same_off h hr hn hag hah hch x hx hsu hst hbe hs1
            · exact next_better h hr hn hag hah hch x hx hsu hst hbe
end Go.Proofs.Ytbgojlcciealiaa
