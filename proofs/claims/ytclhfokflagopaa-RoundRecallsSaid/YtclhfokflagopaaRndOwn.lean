/-
  One's way to agreement: votes that are asked for. No condition.
-/
import Derived.Test.YtclhfokflagopaaRndJoin
namespace Go.Proofs.Ytclhfokflagopaa
open Go Go.RowKit Go.Maps

set_option maxRecDepth 100000 in
set_option maxHeartbeats 8000000 in
theorem vote_any {W : World} {B C M n : Nat} {kv : Value} {s : RdS} (h : RoundAt W B C M n kv s) (r k q : Int) (hr : wfi r) (hk : wfi k) (hq : wfi q) : Calls Try.prog 66 #[.pointer (some ⟨B, 0, none⟩), .int .i64 r, .int .i64 k, .int .i64 q] W fun e w' => e = .returned (idv ((s.votes r k q).getD zeroId)) ∧ Below W.heap.size W w' := by
  have HR := Lib.hid h
  have HOK := Lib.hid (h.cnt.idOk r k q)
  have HGE : Hid (∀ W', Below W.heap.size W W' → Calls Try.prog 30 #[.pointer (some ⟨C, 0, none⟩), .int .i64 r, .int .i64 k, .int .i64 q] W' fun e w' => e = .returned (idv ((s.votes r k q).getD zeroId)) ∧ Below W'.heap.size W' w') := Lib.hid fun W' hb => get_any (h.below hb).cnt r k q hr hk hq
  generalize hx : (s.votes r k q).getD zeroId = x at HOK HGE ⊢
  clear h hr hk hq hx
  go_enter Try.func66, Try.ntmps66
  go_upto_region 1 with fail
  generalize hW : World.alloc _ _ = W1
  have hb1 : Below W.heap.size W W1 := by rw [← hW]; exact (Below.refl _ _).alloc (Nat.le_refl _) _
  obtain ⟨old, hk1, ho1⟩ : ∃ old, Blk W1 W.heap.size 24 old ∧ old.size = 32 := by rw [← hW]; exact ⟨_, Blk.newAt _ _ rfl rfl, rfl⟩
  have HB1 := Lib.hid hb1
  have HK1 := Lib.hid hk1
  have HO1 := Lib.hid ho1
  have c548 : W1.cell? ⟨B, 548, none⟩ = some (.pointer (some ⟨C, 0, none⟩)) := (HR.out.below hb1).cell (i := 548) (by omega)
  clear hb1 hk1 ho1 hW
  go_wp2_with (first
    | (go_at_call 30; refine (HGE.out _ HB1.out).mono ?_; rintro e W2 ⟨rfl, hb2⟩; have HB2 := Lib.hid hb2; clear hb2)
    | (guard_target = wpList _ _ _ (Oper.mk _ (.store 24 _ _) _ _ _ _ :: _) _ _; refine wpList_store_idv rfl _ _ rfl W.heap.size x rfl rfl HOK.out 24 _ (HK1.out.below HB2.out HK1.out.lt) HO1.out ?_; intro W9 hS9 hz9 hb9 hk9))
  refine bodyPost_ret (results_idv rfl _ _ W.heap.size 24 x HOK.out rfl hS9) rfl ?_
  exact ⟨rfl, (HB1.out.trans (HB2.out.mono HB1.out.size)).trans hb9⟩
/-- Two IDs side by side. -/
def twoL (a b : List UInt8) : List Value := idL a ++ idL b
set_option maxRecDepth 100000 in
theorem two_fill (g h : Nat → UInt8) : Try.prog.built 100 [(0, .agg (idC ((List.range 32).map g))), (1, .agg (idC ((List.range 32).map h)))] = some (twoL ((List.range 32).map g) ((List.range 32).map h)).toArray := by kernel_rfl
theorem two_built (a b : List UInt8) (ha : IdOk a) (hb : IdOk b) : Try.prog.built 100 [(0, idv a), (1, idv b)] = some (twoL a b).toArray := by
  rw [id_range ha, id_range hb]
  exact two_fill _ _
theorem two_info : (Try.prog.info? 100).map (·.size) = some 64 := by kernel_rfl
theorem twoL_length {a b : List UInt8} (ha : IdOk a) (hb : IdOk b) : (twoL a b).length = 64 := by
  unfold twoL
  rw [List.length_append, idL_length ha, idL_length hb]
theorem twoL_one (a b : List UInt8) : ∀ u ∈ twoL a b, u.oneCell' = true := fun u hu => by
  rcases List.mem_append.1 hu with hu | hu <;> (obtain ⟨c, _, rfl⟩ := List.mem_map.1 hu; rfl)
set_option maxRecDepth 100000 in
set_option maxHeartbeats 8000000 in
theorem own_any {W : World} {B C M n : Nat} {kv : Value} {s : RdS} (h : RoundAt W B C M n kv s) (r : Int) (hr : wfi r) : Calls Try.prog 48 #[.pointer (some ⟨B, 0, none⟩), .int .i64 r] W fun e w' => e = .returned (.agg (twoL ((s.votes r 0 s.me).getD zeroId) ((s.votes r 1 s.me).getD zeroId)).toArray) ∧ Below W.heap.size W w' := by
  have HR := Lib.hid h
  have hme : wfi s.me := wfi_small (by have := h.ok.me; omega) (by have := h.ok.me; have := h.ok.voters; omega)
  have HX : Hid (IdOk ((s.votes r 0 s.me).getD zeroId) ∧ IdOk ((s.votes r 1 s.me).getD zeroId)) := Lib.hid ⟨h.cnt.idOk r 0 s.me, h.cnt.idOk r 1 s.me⟩
  have HV : Hid (∀ k, wfi k → ∀ W', Below W.heap.size W W' → Calls Try.prog 66 #[.pointer (some ⟨B, 0, none⟩), .int .i64 r, .int .i64 k, .int .i64 s.me] W' fun e w' => e = .returned (idv ((s.votes r k s.me).getD zeroId)) ∧ Below W'.heap.size W' w') := Lib.hid fun k hk W' hb => vote_any (h.below hb) r k s.me hr hk hme
  have HV0a := Lib.hid (HV.out 0 (wfi_small (by omega) (by omega)))
  have HV1a := Lib.hid (HV.out 1 (wfi_small (by omega) (by omega)))
  generalize (s.votes r 0 s.me).getD zeroId = x0 at HX HV0a ⊢
  generalize (s.votes r 1 s.me).getD zeroId = x1 at HX HV1a ⊢
  clear h hr hme HV
  go_enter Try.func48, Try.ntmps48
  go_upto_region 1 with fail
  generalize hW : World.alloc _ _ = W1
  have hb1 : Below W.heap.size W W1 := by rw [← hW]; exact (Below.refl _ _).alloc (Nat.le_refl _) _
  obtain ⟨old, hk1, ho1⟩ : ∃ old, Blk W1 W.heap.size 100 old ∧ old.size = 64 := by rw [← hW]; exact ⟨_, Blk.newAt _ _ rfl rfl, rfl⟩
  have HB1 := Lib.hid hb1
  have HK1 := Lib.hid hk1
  have HO1 := Lib.hid ho1
  have HV0 : Hid (∀ W', Below W1.heap.size W1 W' → Calls Try.prog 66 #[.pointer (some ⟨B, 0, none⟩), .int .i64 r, .int .i64 0, .int .i64 s.me] W' fun e w' => e = .returned (idv x0) ∧ Below W'.heap.size W' w') := Lib.hid fun W' hb => HV0a.out W' (hb1.trans (hb.mono hb1.size))
  have HV1 : Hid (∀ W', Below W1.heap.size W1 W' → Calls Try.prog 66 #[.pointer (some ⟨B, 0, none⟩), .int .i64 r, .int .i64 1, .int .i64 s.me] W' fun e w' => e = .returned (idv x1) ∧ Below W'.heap.size W' w') := Lib.hid fun W' hb => HV1a.out W' (hb1.trans (hb.mono hb1.size))
  have hbX : Below W1.heap.size W1 W1.drew := (Below.refl _ W1).drew
  clear hb1 hk1 ho1 hW
  refine wp_region_held_drew (S := fun W' => W'.cell? ⟨B, 1, none⟩ = some (.int .i64 s.me)) (by kernel_rfl) ?_ (fun hHeld => ?_)
  · exact ((HR.out.below HB1.out.drew).cell (i := 1) (by omega))
  refine wpAnyH_take (i := 0) (oi := ⟨some 5, _, _, _, _, _⟩) (v := ?_) rfl (by kernel_rfl) (by kernel_rfl) (by kernel_rfl) (fun _ _ _ h => h) (Or.inl ⟨by rfl, ?_⟩) (by assumption) ?_
  rotate_left
  · intro w hSw; (try dsimp only at hSw); go_simp; try (with_reducible rfl)
  rotate_left 0
  try simp only [Act.put, List.setIfInBounds_toArray, List.set_cons_zero, List.set_cons_succ]
  refine wpAnyH_take (i := 1) (oi := ⟨some 6, _, _, _, _, _⟩) (v := ?_) rfl (by kernel_rfl) (by kernel_rfl) (by kernel_rfl) (fun _ _ _ h => h) (Or.inl ⟨by rfl, ?_⟩) (by assumption) ?_
  rotate_left
  · intro w hSw; (try dsimp only at hSw); go_simp; try (with_reducible rfl)
  rotate_left 0
  try simp only [Act.put, List.setIfInBounds_toArray, List.set_cons_zero, List.set_cons_succ]
  refine wpAnyH_take (i := 2) (oi := ⟨some 7, _, _, _, _, _⟩) (v := ?_) rfl (by kernel_rfl) (by kernel_rfl) (by kernel_rfl) (fun _ _ _ h => h) (Or.inl ⟨by rfl, ?_⟩) (by assumption) ?_
  rotate_left
  · intro w hSw; (try dsimp only at hSw); go_simp; try (with_reducible rfl)
  rotate_left 0
  try simp only [Act.put, List.setIfInBounds_toArray, List.set_cons_zero, List.set_cons_succ]
  refine wpAnyH_take (i := 3) (oi := ⟨some 8, _, _, _, _, _⟩) (v := ?_) rfl (by kernel_rfl) (by kernel_rfl) (by kernel_rfl) (fun _ _ _ h => h) (Or.inl ⟨by rfl, ?_⟩) (by assumption) ?_
  rotate_left
  · intro w hSw; (try dsimp only at hSw); go_simp; try (with_reducible rfl)
  rotate_left 0
  try simp only [Act.put, List.setIfInBounds_toArray, List.set_cons_zero, List.set_cons_succ]
  refine wpAnyH_take (i := 4) (oi := ⟨some 9, _, _, _, _, _⟩) (v := ?_) rfl (by kernel_rfl) (by kernel_rfl) (by kernel_rfl) (fun _ _ _ h => h) (Or.inl ⟨by rfl, ?_⟩) (by assumption) ?_
  rotate_left
  · intro w hSw; (try dsimp only at hSw); go_simp; try (with_reducible rfl)
  rotate_left 0
  try simp only [Act.put, List.setIfInBounds_toArray, List.set_cons_zero, List.set_cons_succ]
  refine wpAnyH_take (i := 5) (oi := ⟨some 10, _, _, _, _, _⟩) (v := (.int .i64 s.me)) rfl (by kernel_rfl) (by kernel_rfl) (by kernel_rfl) (fun _ _ _ h => h) (yields_one (by rfl) 3 _ rfl ⟨B, 1, none⟩ rfl _ _ (fun W' hS => hS) Try.underlying3 rfl) (by assumption) ?_
  try simp only [Act.put, List.setIfInBounds_toArray, List.set_cons_zero, List.set_cons_succ]
  refine wpAnyH_take (i := 7) (oi := ⟨some 12, _, _, _, _, _⟩) (v := ?_) rfl (by kernel_rfl) (by kernel_rfl) (by kernel_rfl) (fun _ _ _ h => h) (Or.inl ⟨by rfl, ?_⟩) (by assumption) ?_
  rotate_left
  · intro w hSw; (try dsimp only at hSw); go_simp; try (with_reducible rfl)
  rotate_left 0
  try simp only [Act.put, List.setIfInBounds_toArray, List.set_cons_zero, List.set_cons_succ]
  refine wpAnyH_take (i := 8) (oi := ⟨some 13, _, _, _, _, _⟩) (v := ?_) rfl (by kernel_rfl) (by kernel_rfl) (by kernel_rfl) (fun _ _ _ h => h) (Or.inl ⟨by rfl, ?_⟩) (by assumption) ?_
  rotate_left
  · intro w hSw; (try dsimp only at hSw); go_simp; try (with_reducible rfl)
  rotate_left 0
  try simp only [Act.put, List.setIfInBounds_toArray, List.set_cons_zero, List.set_cons_succ]
  refine wpAnyH_take (i := 9) (oi := ⟨some 14, _, _, _, _, _⟩) (v := ?_) rfl (by kernel_rfl) (by kernel_rfl) (by kernel_rfl) (fun _ _ _ h => h) (Or.inl ⟨by rfl, ?_⟩) (by assumption) ?_
  rotate_left
  · intro w hSw; (try dsimp only at hSw); go_simp; try (with_reducible rfl)
  rotate_left 0
  try simp only [Act.put, List.setIfInBounds_toArray, List.set_cons_zero, List.set_cons_succ]
  refine wpAnyH_take (i := 10) (oi := ⟨some 15, _, _, _, _, _⟩) (v := ?_) rfl (by kernel_rfl) (by kernel_rfl) (by kernel_rfl) (fun _ _ _ h => h) (Or.inl ⟨by rfl, ?_⟩) (by assumption) ?_
  rotate_left
  · intro w hSw; (try dsimp only at hSw); go_simp; try (with_reducible rfl)
  rotate_left 0
  try simp only [Act.put, List.setIfInBounds_toArray, List.set_cons_zero, List.set_cons_succ]
  refine wpAnyH_take (i := 11) (oi := ⟨some 16, _, _, _, _, _⟩) (v := ?_) rfl (by kernel_rfl) (by kernel_rfl) (by kernel_rfl) (fun _ _ _ h => h) (Or.inl ⟨by rfl, ?_⟩) (by assumption) ?_
  rotate_left
  · intro w hSw; (try dsimp only at hSw); go_simp; try (with_reducible rfl)
  rotate_left 0
  try simp only [Act.put, List.setIfInBounds_toArray, List.set_cons_zero, List.set_cons_succ]
  refine wpAnyH_take (i := 12) (oi := ⟨some 17, _, _, _, _, _⟩) (v := (.int .i64 s.me)) rfl (by kernel_rfl) (by kernel_rfl) (by kernel_rfl) (fun _ _ _ h => h) (yields_one (by rfl) 3 _ rfl ⟨B, 1, none⟩ rfl _ _ (fun W' hS => hS) Try.underlying3 rfl) (by assumption) ?_
  try simp only [Act.put, List.setIfInBounds_toArray, List.set_cons_zero, List.set_cons_succ]
  refine wpAnyH_ready (rs := [6]) (by kernel_rfl) (by simp) ?_
  refine (AllReadyH.cons (o := ⟨some 11, _, _, _, _, _⟩) rfl (fun K hK => ?_) AllReadyH.nil)
  (try rw [if_pos (by rfl)])
  go_simp
  refine (HV0.out _ hbX).mono ?_
  rintro e Wn ⟨rfl, hbn⟩
  replace hbX := hbX.trans (hbn.mono hbX.size)
  clear hbn
  try dsimp only
  refine hK.out _ _ ((by first | exact HR9.out.cell (i := 1) (by omega) | exact (HR.out.below (HB1.out.trans (hbX.mono HB1.out.size))).cell (i := 1) (by omega))) (fun hHeld => ?_)
  clear hK K
  try simp only [Act.put, List.setIfInBounds_toArray, List.set_cons_zero, List.set_cons_succ]
  refine wpAnyH_ready (rs := [13]) (by kernel_rfl) (by simp) ?_
  refine (AllReadyH.cons (o := ⟨some 18, _, _, _, _, _⟩) rfl (fun K hK => ?_) AllReadyH.nil)
  (try rw [if_pos (by rfl)])
  go_simp
  refine (HV1.out _ hbX).mono ?_
  rintro e Wn ⟨rfl, hbn⟩
  replace hbX := hbX.trans (hbn.mono hbX.size)
  clear hbn
  try dsimp only
  refine hK.out _ _ ((by first | exact HR9.out.cell (i := 1) (by omega) | exact (HR.out.below (HB1.out.trans (hbX.mono HB1.out.size))).cell (i := 1) (by omega))) (fun hHeld => ?_)
  clear hK K
  try simp only [Act.put, List.setIfInBounds_toArray, List.set_cons_zero, List.set_cons_succ]
  refine wpAnyH_take (i := 14) (oi := ⟨some 19, _, _, _, _, _⟩) (v := (.agg (twoL x0 x1).toArray)) rfl (by kernel_rfl) (by kernel_rfl) (by kernel_rfl) (fun _ _ _ h => h) (yields_build (by rfl) 100 _ rfl [(0, idv x0), (1, idv x1)] rfl _ (two_built x0 x1 HX.out.1 HX.out.2)) (by assumption) ?_
  try simp only [Act.put, List.setIfInBounds_toArray, List.set_cons_zero, List.set_cons_succ]
  refine wpAnyH_ready (rs := [15]) (by kernel_rfl) (by simp) ?_
  refine (AllReadyH.cons (o := ⟨none, _, _, _, _, _⟩) rfl (fun K hK => ?_) AllReadyH.nil)
  (try rw [if_pos (by rfl)])
  refine oper_store_own 100 64 _ _ rfl W.heap.size (twoL x0 x1) (twoL_length HX.out.1 HX.out.2) (twoL_one _ _) rfl rfl 100 _ (HK1.out.below hbX HK1.out.lt) HO1.out two_info ?_
  intro w9 hS9 hg9 hz9
  have hb9 : Below W.heap.size W w9 := HB1.out.trans ((hbX.mono HB1.out.size).trans (below_of_grown hg9 (Nat.le_refl _) (Nat.le_trans HB1.out.size hbX.size)))
  have HR9 := Lib.hid (HR.out.below hb9)
  try dsimp only
  refine hK.out _ _ ((by first | exact HR9.out.cell (i := 1) (by omega) | exact (HR.out.below (HB1.out.trans (hbX.mono HB1.out.size))).cell (i := 1) (by omega))) (fun hHeld => ?_)
  clear hK K
  try simp only [Act.put]
  refine wpAnyH_done (by kernel_rfl) ?_ _
  go_wp2_with fail
  refine bodyPost_ret (results_cell_row (p := 4) (by rfl) _ _ W.heap.size 100 (twoL x0 x1).toArray (0, 0) _ rfl hS9 Try.underlying100 rfl (by rw [List.size_toArray, twoL_length HX.out.1 HX.out.2]; exact two_info)) rfl ?_
  exact ⟨rfl, hb9⟩
end Go.Proofs.Ytclhfokflagopaa
