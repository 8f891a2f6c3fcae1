/-
  The reference's Leaf and Node: for whatever text, whatever two sums, in whatever memory.
-/
import Derived.Test.YtkkanaefngggoaaDoorRefTextT
namespace Go.Proofs.YtkkanaefngggoaaDoor
open Go Go.RowKit Go.Shelf

set_option maxRecDepth 100000 in
set_option maxHeartbeats 1000000 in
theorem refLeaf_any (L : List UInt8) (hL : L.length ≤ 1099511627775) (w : World) :
    Calls Tryd.prog 32 #[.string ⟨L.toArray⟩] w fun e w' => e = .returned (shaV (0 :: L)) ∧ Below w.heap.size w w' := by
  have hZ32 : Hid (Array.replicate 32 (bv 0) = arr 32 fun _ => bv 0) := Lib.hid (by rw [← upto_none 32 (fun _ => bv 0) (bv 0)]; exact arr_congr fun i _ => by simp)
  have hcat : (({ data := #[0] } : ByteArray) ++ { data := L.toArray }) = ⟨(0 :: L).toArray⟩ := ba_app [0] L
  have hno : ¬ (9223372036854775807 < 1 + L.length) := by omega
  have HRO := Lib.hid (fun W => refOf_any (0 :: L) (by simp; omega) W)
  clear hL
  go_enter Tryd.func32, Tryd.ntmps32
  go_wp2_with fail
  generalize hW : World.alloc w _ = W
  have r0 : Blk W w.heap.size 30 (arr 32 fun _ => bv 0) := by rw [← hW]; exact Blk.newAt _ _ rfl hZ32.out
  have b0 : Below w.heap.size w W := by rw [← hW]; exact (Below.refl _ _).alloc (Nat.le_refl _) _
  have s0 := b0.size
  have HR0 := Lib.hid r0
  have HB := Lib.hid b0
  clear hW r0 b0 hcat hno
  refine (HRO.out _).mono ?_
  rintro e w3 ⟨rfl, hb3⟩
  have hR3 := HR0.out.below hb3 HR0.out.lt
  dsimp only
  go_wp2_with (refine wpList_store_row rfl 30 _ _ rfl w.heap.size (arr 32 fun i => bv (sha (0 :: L) i)) rfl rfl 30 _ hR3 (by rw [arr_size]; kernel_rfl) (by rw [arr_size, arr_size]) (arr_all_bv _ _) ?_)
  refine bodyPost_ret (v := shaV (0 :: L)) (results_cell_row (p := 2) (ty := 30) rfl _ _ w.heap.size 30 _ (0, 0) _ rfl (hR3.setRow _) Tryd.underlying30 rfl (by rw [arr_size]; kernel_rfl)) rfl ⟨rfl, below_setRow (HB.out.trans (hb3.mono s0)) (Nat.le_refl _) _⟩

/-- Any sum's cells as a list. -/
theorem id_cells (f : Nat → UInt8) : ∃ cs : List Value, (arr 32 fun i => bv (f i)) = cs.toArray ∧ cs.length = 32 ∧ (∀ v ∈ cs, v.oneCell' = true) ∧ (Tryd.prog.info? 30).map (·.size) = some cs.length :=
  ⟨(id32 f).map Extern.Stop.cell, arr_id32 _, by simp [id32], fun v hv => by
    simp only [List.mem_map] at hv
    obtain ⟨i, _, rfl⟩ := hv
    rfl, by rw [show ((id32 f).map Extern.Stop.cell).length = 32 from by simp [id32]]; kernel_rfl⟩

set_option maxRecDepth 100000 in
set_option maxHeartbeats 1000000 in
theorem refNode_any (l r : Nat → UInt8) (w : World) :
    Calls Tryd.prog 48 #[.agg (arr 32 fun i => bv (l i)), .agg (arr 32 fun i => bv (r i))] w fun e w' => e = .returned (shaV (1 :: (id32 l ++ id32 r))) ∧ Below w.heap.size w w' := by
  have hZ32 : Hid (Array.replicate 32 (bv 0) = arr 32 fun _ => bv 0) := Lib.hid (by rw [← upto_none 32 (fun _ => bv 0) (bv 0)]; exact arr_congr fun i _ => by simp)
  obtain ⟨cl, el, hll, hlo, hli⟩ := id_cells l
  obtain ⟨cr, er, hrl, hro, hri⟩ := id_cells r
  have TL := Lib.hid (fun W => text_any l W)
  have TR := Lib.hid (fun W => text_any r W)
  have RO := Lib.hid (fun W => refOf_any (1 :: (id32 l ++ id32 r)) (by simp [id32]) W)
  obtain ⟨cs, e1, hsl, hso, hsi, e2⟩ := sum_cells (1 :: (id32 l ++ id32 r))
  rw [el] at TL
  rw [er] at TR
  rw [e1] at RO
  rw [el, er]
  have EL := Lib.hid el
  have ER := Lib.hid er
  have E1 := Lib.hid e1
  clear el er e1 e2
  obtain ⟨tl, htl⟩ : ∃ tl, id32 l = tl := ⟨_, rfl⟩
  obtain ⟨tr, htr⟩ : ∃ tr, id32 r = tr := ⟨_, rfl⟩
  have hcat1 : (({ data := #[1] } : ByteArray) ++ { data := tl.toArray }) = ⟨(1 :: tl).toArray⟩ := ba_app [1] tl
  have hcat2 : (({ data := (1 :: tl).toArray } : ByteArray) ++ { data := tr.toArray }) = ⟨(1 :: (tl ++ tr)).toArray⟩ := ba_app (1 :: tl) tr
  have ltl : tl.length = 32 := by rw [← htl]; simp [id32]
  have ltr : tr.length = 32 := by rw [← htr]; simp [id32]
  have hno1 : ¬ (9223372036854775807 < 1 + tl.length) := by omega
  have hno2 : ¬ (9223372036854775807 < tl.length + 1 + tr.length) := by omega
  rw [htl] at TL
  rw [htr] at TR
  rw [htl, htr] at RO E1
  rw [htl, htr]
  have LL := Lib.hid (And.intro ltl ltr)
  clear htl htr ltl ltr
  have hu := Tryd.underlying30
  have hinfo : (Tryd.prog.info? 30).map (·.size) = some 32 := by kernel_rfl
  have HLI := Lib.hid hli
  have HRI := Lib.hid hri
  have HSI := Lib.hid hsi
  clear hli hri hsi
  go_enter Tryd.func48, Tryd.ntmps48
  go_wp2_with fail
  generalize hW : (World.alloc (World.alloc (World.alloc w _) _) _) = W
  have c0 : Blk W w.heap.size 30 cl.toArray := by rw [← hW]; exact ((Blk.newAt _ _ rfl rfl).alloc _).alloc _
  have c1 : Blk W (w.heap.size + 1) 30 cr.toArray := by rw [← hW]; exact (Blk.newAt _ _ (by simp) rfl).alloc _
  have r0 : Blk W (w.heap.size + 1 + 1) 30 (arr 32 fun _ => bv 0) := by rw [← hW]; exact Blk.newAt _ _ (by simp) hZ32.out
  have b0 : Below w.heap.size w W := by rw [← hW]; exact (((Below.refl _ _).alloc (Nat.le_refl _) _).alloc (by simp) _).alloc (by simp; omega) _
  have s0 := b0.size
  clear hW
  have C0 := Lib.hid c0
  have C1 := Lib.hid c1
  have HR0 := Lib.hid r0
  have HB := Lib.hid b0
  have ALL : Hid (∀ W', Below W.heap.size W W' → W'.rangeAt w.heap.size 0 cl ∧ W'.rangeAt (w.heap.size + 1) 0 cr ∧ W'.there (w.heap.size + 1 + 1) 0 32 ∧ Below w.heap.size w W') := Lib.hid fun W' hb =>
    ⟨range_blk (C0.out.below hb C0.out.lt), range_blk (C1.out.below hb C1.out.lt), there_blk (HR0.out.below hb HR0.out.lt), HB.out.trans (hb.mono s0)⟩
  clear r0 c0 c1 b0 hZ32
  refine wp_region_held_drew (S := fun w' => w'.rangeAt w.heap.size 0 cl ∧ w'.rangeAt (w.heap.size + 1) 0 cr ∧ w'.there (w.heap.size + 1 + 1) 0 32 ∧ Below w.heap.size w w') (by kernel_rfl) ?_ (fun hHeld => ?_)
  · exact ALL.out _ (by (repeat' (first | assumption | exact Below.refl _ _ | refine Kp.drew ?_ | refine Kp.alloc ?_ _ | (apply Kp.call; rotate_left; assumption))))
  refine wpAnyH_take (i := 0) (oi := _) (v := _) rfl (by kernel_rfl) (by kernel_rfl) (by kernel_rfl) (fun _ _ _ h => h) (yieldsIf_load_mid (by rfl) _ _ rfl _ _ rfl cl _ (fun _ hS => hS.1) hu rfl HLI.out) (by assumption) ?_
  try simp only [Act.put, List.setIfInBounds_toArray]
  refine wpAnyH_take (i := 3) (oi := _) (v := _) rfl (by kernel_rfl) (by kernel_rfl) (by kernel_rfl) (fun _ _ _ h => h) (yieldsIf_load_mid (by rfl) _ _ rfl _ _ rfl cr _ (fun _ hS => hS.2.1) hu rfl HRI.out) (by assumption) ?_
  try simp only [Act.put]
  refine wpAnyH_ready (rs := [1]) (by kernel_rfl) (by simp) ?_
  refine AllReadyH.cons rfl (fun K hK => ?_) AllReadyH.nil
  go_simp
  refine (TL.out _).mono ?_
  rintro e w5 ⟨rfl, hb5⟩
  have q5 : Below W.heap.size W w5 := (Kp.drew (Below.refl _ _)).trans (hb5.mono (Nat.le_refl _))
  dsimp only
  refine hK.out _ _ ?_ (fun hHeld => ?_)
  · exact ALL.out _ q5
  clear hK K
  try simp only [Act.put, List.setIfInBounds_toArray, List.set_cons_zero, List.set_cons_succ]
  refine wpAnyH_take (i := 2) (oi := _) (v := ?_) rfl (by kernel_rfl) (by kernel_rfl) (by kernel_rfl) (fun _ _ _ h => h) (Or.inl ⟨by rfl, ?_⟩) (by assumption) ?_
  rotate_left
  · intro w hSw; (try dsimp only at hSw); go_simp; try (with_reducible rfl)
  rotate_left 0
  try simp only [Act.put, List.setIfInBounds_toArray]
  refine wpAnyH_ready (rs := [4]) (by kernel_rfl) (by simp) ?_
  refine AllReadyH.cons rfl (fun K hK => ?_) AllReadyH.nil
  go_simp
  refine (TR.out _).mono ?_
  rintro e w6 ⟨rfl, hb6⟩
  have q6 : Below W.heap.size W w6 := Kp.call q5 hb6
  dsimp only
  refine hK.out _ _ ?_ (fun hHeld => ?_)
  · exact ALL.out _ q6
  clear hK K
  try simp only [Act.put, List.setIfInBounds_toArray, List.set_cons_zero, List.set_cons_succ]
  refine wpAnyH_take (i := 5) (oi := _) (v := ?_) rfl (by kernel_rfl) (by kernel_rfl) (by kernel_rfl) (fun _ _ _ h => h) (Or.inl ⟨by rfl, ?_⟩) (by assumption) ?_
  rotate_left
  · intro w hSw; (try dsimp only at hSw); go_simp; try (with_reducible rfl)
  rotate_left 0
  try simp only [Act.put, List.setIfInBounds_toArray]
  refine wpAnyH_ready (rs := [6]) (by kernel_rfl) (by simp) ?_
  refine AllReadyH.cons rfl (fun K hK => ?_) AllReadyH.nil
  go_simp
  refine (RO.out _).mono ?_
  rintro e w7 ⟨rfl, hb7⟩
  have q7 : Below W.heap.size W w7 := Kp.call q6 hb7
  dsimp only
  refine hK.out _ _ ?_ (fun hHeld => ?_)
  · exact ALL.out _ q7
  clear hK K
  try simp only [Act.put, List.setIfInBounds_toArray, List.set_cons_zero, List.set_cons_succ]
  refine wpAnyH_ready (rs := [7]) (by kernel_rfl) (by simp) ?_
  refine AllReadyH.cons rfl (fun K hK => ?_) AllReadyH.nil
  rw [if_pos (by rfl)]
  refine wp_store_mid _ _ _ rfl _ _ (List.toArray _) rfl rfl ?_ ?_ (all_oneCell_toArray hso) ?_
  · have e : cs.toArray.size = 32 := by simp [hsl]
    rw [e]; exact (ALL.out _ q7).2.2.1
  · have e : cs.toArray.size = 32 := by simp [hsl]
    rw [e]; exact hinfo
  simp only [Act.put, List.setIfInBounds_toArray]
  refine hK.out _ _ ?_ (fun hHeld => ?_)
  · exact ⟨World.rangeAt_setCells_apart (ALL.out _ q7).1 _ _ _ (.inl (by omega)), World.rangeAt_setCells_apart (ALL.out _ q7).2.1 _ _ _ (.inl (by omega)), World.there_setCells (ALL.out _ q7).2.2.1 _ _ _, Go.Lib.below_setCells _ (by omega) _ _ (ALL.out _ q7).2.2.2⟩
  clear hK K
  refine wpAnyH_done (by kernel_rfl) ?_ _
  have hth := World.rangeAt_setCells_same w7 (w.heap.size + 1 + 1) 0 cs (by rw [hsl]; exact (ALL.out _ q7).2.2.1)
  have hbl : Below w.heap.size w (w7.setCells (w.heap.size + 1 + 1) 0 cs) := Go.Lib.below_setCells _ (by omega) _ _ (ALL.out _ q7).2.2.2
  have HTH := Lib.hid hth
  have HBL := Lib.hid hbl
  clear hth hbl hb5 q5 hb6 q6 hb7 q7 hHeld
  go_wp2
  refine bodyPost_ret (v := .agg cs.toArray) (results_cell_mid (p := 4) (ty := 30) rfl _ _ (w.heap.size + 1 + 1) cs _ rfl HTH.out Tryd.underlying30 rfl HSI.out) rfl ⟨by rw [E1.out], HBL.out⟩
end Go.Proofs.YtkkanaefngggoaaDoor
