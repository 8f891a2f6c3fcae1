/-
  The guard 'proves': it answers true, in whatever memory in which the tables lie. No condition.
-/
import Derived.Test.YtdfgffmefonelaaDoorPrfSum
import Derived.Test.YtdfgffmefonelaaDoorRegT
namespace Go.Proofs.YtdfgffmefonelaaDoor
open Go Go.RowKit Go.Shelf TreeM

theorem rdi_cells {w : World} {ok : Nat → Prop} {g n c : Nat} {l : List D} (h : RdI w ok (.slice (some ⟨g, 0, none⟩) n c) l) (k : Nat) (hk : k < n) (f : D) (hf : l.getD k dz = f) (o : Nat) (ho : 32 * k = o) (i : Nat) (hi : i < 32) : w.cell? ((⟨g, o, none⟩ : Addr).add i) = some (bv (f i)) := by
  obtain ⟨ad, e, _, hc⟩ := h.at_ hk
  injection e with e
  subst e ho hf
  have := hc i hi
  rw [add_zero_block] at this
  exact this
set_option maxRecDepth 100000 in
set_option maxHeartbeats 4000000 in
theorem proves_any (w : World) (hT : Tables w) :
    Calls Tryd.prog 11 #[] w fun e w' => e = .returned (.bool true) ∧ Below w.heap.size w w' := by
  obtain ⟨w0, hw0⟩ : ∃ w0, w.alloc (.cells (idCells [d1, d2, d3]).toArray 23) = w0 := ⟨_, rfl⟩
  have hb0 : Below w.heap.size w w0 := by rw [← hw0]; exact (Below.refl _ _).alloc (Nat.le_refl _) _
  have hl0 : RdI w0 (fun b => b < w0.heap.size) (.slice (some ⟨w.heap.size, 0, none⟩) 3 3) [d1, d2, d3] := by
    rw [← hw0]
    exact (rdI_new w [d1, d2, d3] 3 rfl (by omega)).mono fun b hb => by rw [hb]; simp
  have HIN : Hid (Calls Tryd.prog 16 #[.slice (some ⟨w.heap.size, 0, none⟩) 3 3, .int .i64 1] w0 fun e W => ∃ g, e = .returned (.tuple #[.slice (some ⟨g, 0, none⟩) 2 2, .int .i64 0]) ∧ RdI W (fun b => b < W.heap.size) (.slice (some ⟨g, 0, none⟩) 2 2) [d1, d3] ∧ Below w0.heap.size w0 W) := Lib.hid ((inclusion_in _ [d1, d2, d3] 1 w0 (hT.below hb0) hl0 (by simp) (by simp)).mono (by
    rintro e W ⟨g, N, rfl, hN, hr, hb⟩
    rw [inc_three] at hr
    rw [show [d1, d2, d3].length = 3 from rfl, way_three] at hN
    subst hN
    exact ⟨g, rfl, hr.mono fun b hb => hb.2, hb⟩))
  have HCN : Hid (∀ W, Below w0.heap.size w0 W → Calls Tryd.prog 35 #[.slice (some ⟨w.heap.size, 0, none⟩) 3 3, .int .i64 2] W fun e w' => ∃ g, e = .returned (.tuple #[.slice (some ⟨g, 0, none⟩) 1 1, .int .i64 0]) ∧ RdI w' (fun b => b < w'.heap.size) (.slice (some ⟨g, 0, none⟩) 1 1) [d3] ∧ Below W.heap.size W w') := Lib.hid fun W hbW => (consistency_in _ [d1, d2, d3] 2 W (hT.below (hb0.trans (hbW.mono hb0.size))) (hl0.below hbW) (by simp) (by omega) (by simp)).mono (by
    rintro e w' ⟨g, N, rfl, hN, hr, hb⟩
    rw [con_three] at hr
    rw [show [d1, d2, d3].length = 3 from rfl, link_three] at hN
    subst hN
    exact ⟨g, rfl, hr.mono fun b hb => hb.2, hb⟩)
  have HRT : Hid (∀ W, Below w0.heap.size w0 W → Calls Tryd.prog 22 #[.slice (some ⟨w.heap.size, 0, none⟩) 3 3] W fun e w' => e = .returned (.agg (arr 32 fun i => bv (mth [d1, d2, d3] i))) ∧ Below W.heap.size W w') := Lib.hid fun W hbW => troot_any _ [d1, d2, d3] W (hT.below (hb0.trans (hbW.mono hb0.size))) (hl0.below hbW) (by simp)
  have HRT2' : Hid (∀ W, Below w0.heap.size w0 W → Calls Tryd.prog 22 #[.slice (some ⟨w.heap.size, 0, none⟩) 2 3] W fun e w' => e = .returned (.agg (arr 32 fun i => bv (mth [d1, d2] i))) ∧ Below W.heap.size W w') := Lib.hid fun W hbW => troot_any _ [d1, d2] W (hT.below (hb0.trans (hbW.mono hb0.size))) ((hl0.below hbW).take (k := 2) (by omega)) (by simp)
  have HCI1' : Hid (∀ g W, Below w0.heap.size w0 W → RdI W (fun b => b < W.heap.size) (.slice (some ⟨g, 0, none⟩) 2 2) [d1, d3] → Calls Tryd.prog 12 #[.agg (arr 32 fun i => bv (d2 i)), .int .i64 1, .int .i64 3, .slice (some ⟨g, 0, none⟩) 2 2, .agg (arr 32 fun i => bv (mth [d1, d2, d3] i))] W fun e w' => e = .returned (.int .i64 0) ∧ Below W.heap.size W w') := Lib.hid fun g W hbW hr => by
    have := cinc_any d2 (mth [d1, d2, d3]) 1 3 _ [d1, d3] W (hT.below (hb0.trans (hbW.mono hb0.size))) hr
    rw [cinc_yes] at this
    exact this
  have HCI2' : Hid (∀ g W, Below w0.heap.size w0 W → RdI W (fun b => b < W.heap.size) (.slice (some ⟨g, 0, none⟩) 2 2) [d1, d3] → Calls Tryd.prog 12 #[.agg (arr 32 fun i => bv (d1 i)), .int .i64 1, .int .i64 3, .slice (some ⟨g, 0, none⟩) 2 2, .agg (arr 32 fun i => bv (mth [d1, d2, d3] i))] W fun e w' => e = .returned (.int .i64 60) ∧ Below W.heap.size W w') := Lib.hid fun g W hbW hr => by
    have := cinc_any d1 (mth [d1, d2, d3]) 1 3 _ [d1, d3] W (hT.below (hb0.trans (hbW.mono hb0.size))) hr
    rw [cinc_no] at this
    exact this
  have HCC' : Hid (∀ g W, Below w0.heap.size w0 W → RdI W (fun b => b < W.heap.size) (.slice (some ⟨g, 0, none⟩) 1 1) [d3] → Calls Tryd.prog 14 #[.int .i64 2, .int .i64 3, .agg (arr 32 fun i => bv (mth [d1, d2] i)), .agg (arr 32 fun i => bv (mth [d1, d2, d3] i)), .slice (some ⟨g, 0, none⟩) 1 1] W fun e w' => e = .returned (.int .i64 0) ∧ Below W.heap.size W w') := Lib.hid fun g W hbW hr => by
    have := ccon_any (mth [d1, d2]) (mth [d1, d2, d3]) 2 3 _ [d3] W (hT.below (hb0.trans (hbW.mono hb0.size))) hr
    rw [ccon_yes] at this
    exact this
  have hB1 : Tryd.prog.built 23 [(0, .int .u8 1)] = some (arr 32 fun i => bv (d1 i)) := by kernel_rfl
  have hB2 : Tryd.prog.built 23 [(0, .int .u8 2)] = some (arr 32 fun i => bv (d2 i)) := by kernel_rfl
  have hB3 : Tryd.prog.built 23 [(0, .int .u8 3)] = some (arr 32 fun i => bv (d3 i)) := by kernel_rfl
  have hBS : Tryd.prog.builtSlice 23 3 [(0, .agg (arr 32 fun i => bv (d1 i))), (1, .agg (arr 32 fun i => bv (d2 i))), (2, .agg (arr 32 fun i => bv (d3 i)))] = some (idCells [d1, d2, d3]).toArray := by kernel_rfl
  have eq1 := eql_id d1 d1
  have eq3 := eql_id d3 d3
  rw [beq_self_eq_true] at eq1 eq3
  have hsl : ∀ W, (Instr.sliceAt 24 (.slice (some ⟨w.heap.size, 0, none⟩) 3 3) none (some (.int .i64 2)) none).run Tryd.prog W = .ok (.slice (some ⟨w.heap.size, 0, none⟩) 2 3) W := fun W => run_slice_toN (P := Tryd.prog) 24 23 Tryd.underlying24 32 (by kernel_rfl) (some ⟨w.heap.size, 0, none⟩) 3 3 2 (by omega) W
  have HL := Lib.hid hl0
  have HB0 := Lib.hid hb0
  have HW0 := Lib.hid hw0
  clear hb0 hl0 hT hw0
  generalize mth [d1, d2, d3] = R at *
  generalize mth [d1, d2] = R2 at *
  generalize hcs : (idCells [d1, d2, d3]).toArray = cs at *
  clear hcs
  generalize d1 = x1 at *
  generalize d2 = x2 at *
  generalize d3 = x3 at *
  go_enter Tryd.func11, Tryd.ntmps11
  go_wp2_with (first
    | (guard_target = wpList _ _ _ (Oper.mk _ (.build _ #[(0, .const (.int .u8 1))]) _ _ _ _ :: _) _ _; go_must (refine wpList_buildTo (by rfl) 23 #[(0, .const (.int .u8 1))] rfl (arr 32 fun i => bv (x1 i)) (by simp only [List.map_toArray, List.map_cons, List.map_nil]; exact hB1) ?_))
    | (guard_target = wpList _ _ _ (Oper.mk _ (.build _ #[(0, .const (.int .u8 2))]) _ _ _ _ :: _) _ _; go_must (refine wpList_buildTo (by rfl) 23 #[(0, .const (.int .u8 2))] rfl (arr 32 fun i => bv (x2 i)) (by simp only [List.map_toArray, List.map_cons, List.map_nil]; exact hB2) ?_))
    | (guard_target = wpList _ _ _ (Oper.mk _ (.build _ #[(0, .const (.int .u8 3))]) _ _ _ _ :: _) _ _; go_must (refine wpList_buildTo (by rfl) 23 #[(0, .const (.int .u8 3))] rfl (arr 32 fun i => bv (x3 i)) (by simp only [List.map_toArray, List.map_cons, List.map_nil]; exact hB3) ?_))
    | (guard_target = wpList _ _ _ (Oper.mk _ (.buildSlice _ _ _) _ _ _ _ :: _) _ _; go_must (refine wpList_buildSliceW rfl 24 23 3 _ rfl Tryd.underlying24 cs (by simp only [List.map_toArray, List.map_cons, List.map_nil]; exact hBS) ?_); rw [HW0.out])
    | (go_at_call 16; refine HIN.out.mono ?_; rintro e W1 ⟨g1, rfl, hi1, hb1⟩; have HI := Lib.hid hi1; have HB1 := Lib.hid hb1; clear hi1 hb1 HIN)
    | (go_at_call 35; refine (HCN.out _ HB1.out).mono ?_; rintro e W2 ⟨g2, rfl, hc2, hb2⟩; have HI2 := Lib.hid (HI.out.below hb2); have HC := Lib.hid hc2; have HB2 := Lib.hid (HB1.out.trans (hb2.mono HB1.out.size)); clear hc2 hb2 HI)
    | (go_at_call 22; refine (HRT.out _ HB2.out).mono ?_; rintro e W3 ⟨rfl, hb3⟩; have HI3 := Lib.hid (HI2.out.below hb3); have HC3 := Lib.hid (HC.out.below hb3); have HB3 := Lib.hid (HB2.out.trans (hb3.mono HB2.out.size)); clear hb3 HI2 HC HRT)
    | (refine wpList_store_arrW rfl 23 _ _ rfl W3.heap.size (arr 32 fun i => bv (R i)) rfl rfl 23 _ (Blk.new W3 _ _) (by rw [arr_size]; kernel_rfl) (by rw [arr_size]; rfl) (arr_all_bv _ _) ?_; intro W4 hS4 hz4 hb4 hk4; have HS4 := Lib.hid hS4; have q4 : Below W3.heap.size W3 W4 := ((Below.refl _ W3).alloc (Nat.le_refl _) _).trans hb4; have HQ4 := Lib.hid q4; clear hS4 hz4 hb4 hk4 q4))
  have hI4 := HI3.out.below HQ4.out
  have hC4 := HC3.out.below HQ4.out
  have hb04 := HB3.out.trans (HQ4.out.mono HB3.out.size)
  have hL4 := HL.out.below hb04
  have HB4 := Lib.hid (HB0.out.trans (hb04.mono HB0.out.size))
  have HL0 : Hid (∀ W, Below W4.heap.size W4 W → ∀ i, i < 32 → W.cell? ((⟨w.heap.size, 0, none⟩ : Addr).add i) = some (bv (x1 i))) := Lib.hid fun W hb => rdi_cells (hL4.below hb) 0 (by omega) x1 rfl 0 rfl
  have HL1 : Hid (∀ W, Below W4.heap.size W4 W → ∀ i, i < 32 → W.cell? ((⟨w.heap.size, 32, none⟩ : Addr).add i) = some (bv (x2 i))) := Lib.hid fun W hb => rdi_cells (hL4.below hb) 1 (by omega) x2 rfl 32 rfl
  have HL2 : Hid (∀ W, Below W4.heap.size W4 W → ∀ i, i < 32 → W.cell? ((⟨w.heap.size, 64, none⟩ : Addr).add i) = some (bv (x3 i))) := Lib.hid fun W hb => rdi_cells (hL4.below hb) 2 (by omega) x3 rfl 64 rfl
  have HI0 : Hid (∀ W, Below W4.heap.size W4 W → ∀ i, i < 32 → W.cell? ((⟨g1, 0, none⟩ : Addr).add i) = some (bv (x1 i))) := Lib.hid fun W hb => rdi_cells (hI4.below hb) 0 (by omega) x1 rfl 0 rfl
  have HI1 : Hid (∀ W, Below W4.heap.size W4 W → ∀ i, i < 32 → W.cell? ((⟨g1, 32, none⟩ : Addr).add i) = some (bv (x3 i))) := Lib.hid fun W hb => rdi_cells (hI4.below hb) 1 (by omega) x3 rfl 32 rfl
  have HC0 : Hid (∀ W, Below W4.heap.size W4 W → ∀ i, i < 32 → W.cell? ((⟨g2, 0, none⟩ : Addr).add i) = some (bv (x3 i))) := Lib.hid fun W hb => rdi_cells (hC4.below hb) 0 (by omega) x3 rfl 0 rfl
  have HR0 : Hid (∀ W, Below W4.heap.size W4 W → ∀ i, i < 32 → W.cell? ((⟨W3.heap.size, 0, none⟩ : Addr).add i) = some (bv (R i))) := Lib.hid fun W hb i hi => by
    rw [add_zero_block, (HS4.out.below hb HS4.out.lt).cell, arr_get, if_pos hi]
  have HCI1 := Lib.hid fun W (hb : Below W4.heap.size W4 W) => HCI1'.out g1 W (hb04.trans (hb.mono hb04.size)) (hI4.below hb)
  have HCI2 := Lib.hid fun W (hb : Below W4.heap.size W4 W) => HCI2'.out g1 W (hb04.trans (hb.mono hb04.size)) (hI4.below hb)
  have HRT2 := Lib.hid fun W (hb : Below W4.heap.size W4 W) => HRT2'.out W (hb04.trans (hb.mono hb04.size))
  have HCC := Lib.hid fun W (hb : Below W4.heap.size W4 W) => HCC'.out g2 W (hb04.trans (hb.mono hb04.size)) (hC4.below hb)
  have hbX : Below W4.heap.size W4 W4.drew := (Below.refl _ _).drew
  clear HCI1' HCI2' HRT2' HCC' hI4 hC4 hL4 hb04 HI3 HC3 HB0 HB1 HB2 HB3 HQ4 HS4 HL HW0 HCN hB1 hB2 hB3 hBS
  refine wp_region_held_drew (S := fun W' => Below W4.heap.size W4 W') (by kernel_rfl) ?_ (fun hHeld => ?_)
  · exact hbX
  refine wpAnyH_take (i := 0) (oi := ⟨some 23, _, _, _, _, _⟩) (v := ?_) rfl (by kernel_rfl) (by kernel_rfl) (by kernel_rfl) (fun _ _ _ h => h) (Or.inl ⟨by rfl, ?_⟩) (by assumption) ?_
  rotate_left
  · intro w hSw; (try dsimp only at hSw); go_simp; try (with_reducible rfl)
  rotate_left 0
  try simp only [Act.put, List.setIfInBounds_toArray, List.set_cons_zero, List.set_cons_succ]
  refine wpAnyH_take (i := 1) (oi := ⟨some 24, _, _, _, _, _⟩) (v := ?_) rfl (by kernel_rfl) (by kernel_rfl) (by kernel_rfl) (fun _ _ _ h => h) (Or.inl ⟨by rfl, ?_⟩) (by assumption) ?_
  rotate_left
  · intro w hSw; (try dsimp only at hSw); go_simp; try (with_reducible rfl)
  rotate_left 0
  try simp only [Act.put, List.setIfInBounds_toArray, List.set_cons_zero, List.set_cons_succ]
  refine wpAnyH_take (i := 2) (oi := ⟨some 25, _, _, _, _, _⟩) (v := ?_) rfl (by kernel_rfl) (by kernel_rfl) (by kernel_rfl) (fun _ _ _ h => h) (Or.inl ⟨by rfl, ?_⟩) (by assumption) ?_
  rotate_left
  · intro w hSw; (try dsimp only at hSw); go_simp; try (with_reducible rfl)
  rotate_left 0
  try simp only [Act.put, List.setIfInBounds_toArray, List.set_cons_zero, List.set_cons_succ]
  refine wpAnyH_take (i := 3) (oi := ⟨some 26, _, _, _, _, _⟩) (v := ?_) rfl (by kernel_rfl) (by kernel_rfl) (by kernel_rfl) (fun _ _ _ h => h) (Or.inl ⟨by rfl, ?_⟩) (by assumption) ?_
  rotate_left
  · intro w hSw; (try dsimp only at hSw); go_simp; try (with_reducible rfl)
  rotate_left 0
  try simp only [Act.put, List.setIfInBounds_toArray, List.set_cons_zero, List.set_cons_succ]
  refine wpAnyH_take (i := 4) (oi := ⟨some 27, _, _, _, _, _⟩) (v := ?_) rfl (by kernel_rfl) (by kernel_rfl) (by kernel_rfl) (fun _ _ _ h => h) (Or.inl ⟨by rfl, ?_⟩) (by assumption) ?_
  rotate_left
  · intro w hSw; (try dsimp only at hSw); go_simp; try (with_reducible rfl)
  rotate_left 0
  try simp only [Act.put, List.setIfInBounds_toArray, List.set_cons_zero, List.set_cons_succ]
  refine wpAnyH_take (i := 5) (oi := ⟨some 28, _, _, _, _, _⟩) (v := ?_) rfl (by kernel_rfl) (by kernel_rfl) (by kernel_rfl) (fun _ _ _ h => h) (Or.inl ⟨by rfl, ?_⟩) (by assumption) ?_
  rotate_left
  · intro w hSw; (try dsimp only at hSw); go_simp; try (with_reducible rfl)
  rotate_left 0
  try simp only [Act.put, List.setIfInBounds_toArray, List.set_cons_zero, List.set_cons_succ]
  refine wpAnyH_take (i := 6) (oi := ⟨some 29, _, _, _, _, _⟩) (v := ?_) rfl (by kernel_rfl) (by kernel_rfl) (by kernel_rfl) (fun _ _ _ h => h) (Or.inl ⟨by rfl, ?_⟩) (by assumption) ?_
  rotate_left
  · intro w hSw; (try dsimp only at hSw); go_simp; try (with_reducible rfl)
  rotate_left 0
  try simp only [Act.put, List.setIfInBounds_toArray, List.set_cons_zero, List.set_cons_succ]
  refine wpAnyH_take (i := 7) (oi := ⟨some 30, _, _, _, _, _⟩) (v := ?_) rfl (by kernel_rfl) (by kernel_rfl) (by kernel_rfl) (fun _ _ _ h => h) (Or.inl ⟨by rfl, ?_⟩) (by assumption) ?_
  rotate_left
  · intro w hSw; (try dsimp only at hSw); go_simp; try (with_reducible rfl)
  rotate_left 0
  try simp only [Act.put, List.setIfInBounds_toArray, List.set_cons_zero, List.set_cons_succ]
  refine wpAnyH_take (i := 8) (oi := ⟨some 31, _, _, _, _, _⟩) (v := ?_) rfl (by kernel_rfl) (by kernel_rfl) (by kernel_rfl) (fun _ _ _ h => h) (Or.inl ⟨by rfl, ?_⟩) (by assumption) ?_
  rotate_left
  · intro w hSw; (try dsimp only at hSw); go_simp; try (with_reducible rfl)
  rotate_left 0
  try simp only [Act.put, List.setIfInBounds_toArray, List.set_cons_zero, List.set_cons_succ]
  refine wpAnyH_take (i := 9) (oi := ⟨some 32, _, _, _, _, _⟩) (v := ?_) rfl (by kernel_rfl) (by kernel_rfl) (by kernel_rfl) (fun _ _ _ h => h) (Or.inl ⟨by rfl, ?_⟩) (by assumption) ?_
  rotate_left
  · intro w hSw; (try dsimp only at hSw); go_simp; try (with_reducible rfl)
  rotate_left 0
  try simp only [Act.put, List.setIfInBounds_toArray, List.set_cons_zero, List.set_cons_succ]
  refine wpAnyH_take (i := 10) (oi := ⟨some 33, _, _, _, _, _⟩) (v := ?_) rfl (by kernel_rfl) (by kernel_rfl) (by kernel_rfl) (fun _ _ _ h => h) (Or.inl ⟨by rfl, ?_⟩) (by assumption) ?_
  rotate_left
  · intro w hSw; (try dsimp only at hSw); go_simp; try (with_reducible rfl)
  rotate_left 0
  try simp only [Act.put, List.setIfInBounds_toArray, List.set_cons_zero, List.set_cons_succ]
  refine wpAnyH_take (i := 11) (oi := ⟨some 34, _, _, _, _, _⟩) (v := ?_) rfl (by kernel_rfl) (by kernel_rfl) (by kernel_rfl) (fun _ _ _ h => h) (Or.inl ⟨by rfl, ?_⟩) (by assumption) ?_
  rotate_left
  · intro w hSw; (try dsimp only at hSw); go_simp; try (with_reducible rfl)
  rotate_left 0
  try simp only [Act.put, List.setIfInBounds_toArray, List.set_cons_zero, List.set_cons_succ]
  refine wpAnyH_take (i := 12) (oi := ⟨some 35, _, _, _, _, _⟩) (v := ?_) rfl (by kernel_rfl) (by kernel_rfl) (by kernel_rfl) (fun _ _ _ h => h) (Or.inl ⟨by rfl, ?_⟩) (by assumption) ?_
  rotate_left
  · intro w hSw; (try dsimp only at hSw); go_simp; try (with_reducible rfl)
  rotate_left 0
  try simp only [Act.put, List.setIfInBounds_toArray, List.set_cons_zero, List.set_cons_succ]
  refine wpAnyH_take (i := 13) (oi := ⟨some 36, _, _, _, _, _⟩) (v := ?_) rfl (by kernel_rfl) (by kernel_rfl) (by kernel_rfl) (fun _ _ _ h => h) (Or.inl ⟨by rfl, ?_⟩) (by assumption) ?_
  rotate_left
  · intro w hSw; (try dsimp only at hSw); go_simp; try (with_reducible rfl)
  rotate_left 0
  try simp only [Act.put, List.setIfInBounds_toArray, List.set_cons_zero, List.set_cons_succ]
  refine wpAnyH_take (i := 14) (oi := ⟨some 37, _, _, _, _, _⟩) (v := (.agg (arr 32 fun i => bv (x1 i)))) rfl (by kernel_rfl) (by kernel_rfl) (by kernel_rfl) (fun _ _ _ h => h) (yieldsIf_load_at (by rfl) 23 _ rfl ⟨g1, 0, none⟩ rfl 32 (fun i => bv (x1 i)) 5 (fun W hS => HI0.out W hS) Tryd.underlying23 (by kernel_rfl)) (by assumption) ?_
  try simp only [Act.put, List.setIfInBounds_toArray, List.set_cons_zero, List.set_cons_succ]
  refine wpAnyH_take (i := 15) (oi := ⟨some 38, _, _, _, _, _⟩) (v := ?_) rfl (by kernel_rfl) (by kernel_rfl) (by kernel_rfl) (fun _ _ _ h => h) (Or.inl ⟨by rfl, ?_⟩) (by assumption) ?_
  rotate_left
  · intro w hSw; (try dsimp only at hSw); go_simp; try (with_reducible rfl)
  rotate_left 0
  try simp only [Act.put, List.setIfInBounds_toArray, List.set_cons_zero, List.set_cons_succ]
  refine wpAnyH_take (i := 16) (oi := ⟨some 39, _, _, _, _, _⟩) (v := ?_) rfl (by kernel_rfl) (by kernel_rfl) (by kernel_rfl) (fun _ _ _ h => h) (Or.inl ⟨by rfl, ?_⟩) (by assumption) ?_
  rotate_left
  · intro w hSw; (try dsimp only at hSw); go_simp; try (with_reducible rfl)
  rotate_left 0
  try simp only [Act.put, List.setIfInBounds_toArray, List.set_cons_zero, List.set_cons_succ]
  refine wpAnyH_take (i := 17) (oi := ⟨some 40, _, _, _, _, _⟩) (v := (.agg (arr 32 fun i => bv (x1 i)))) rfl (by kernel_rfl) (by kernel_rfl) (by kernel_rfl) (fun _ _ _ h => h) (yieldsIf_load_at (by rfl) 23 _ rfl ⟨w.heap.size, 0, none⟩ rfl 32 (fun i => bv (x1 i)) 5 (fun W hS => HL0.out W hS) Tryd.underlying23 (by kernel_rfl)) (by assumption) ?_
  try simp only [Act.put, List.setIfInBounds_toArray, List.set_cons_zero, List.set_cons_succ]
  refine wpAnyH_take (i := 18) (oi := ⟨some 41, _, _, _, _, _⟩) (v := ?_) rfl (by kernel_rfl) (by kernel_rfl) (by kernel_rfl) (fun _ _ _ h => h) (Or.inl ⟨by rfl, ?_⟩) (by assumption) ?_
  rotate_left
  · intro w hSw; (try dsimp only at hSw); go_simp; try (with_reducible rfl)
  rotate_left 0
  try simp only [Act.put, List.setIfInBounds_toArray, List.set_cons_zero, List.set_cons_succ]
  refine wpAnyH_take (i := 19) (oi := ⟨some 42, _, _, _, _, _⟩) (v := ?_) rfl (by kernel_rfl) (by kernel_rfl) (by kernel_rfl) (fun _ _ _ h => h) (Or.inl ⟨by rfl, ?_⟩) (by assumption) ?_
  rotate_left
  · intro w hSw; (try dsimp only at hSw); go_simp; try (with_reducible rfl)
  rotate_left 0
  try simp only [Act.put, List.setIfInBounds_toArray, List.set_cons_zero, List.set_cons_succ]
  refine wpAnyH_take (i := 20) (oi := ⟨some 43, _, _, _, _, _⟩) (v := ?_) rfl (by kernel_rfl) (by kernel_rfl) (by kernel_rfl) (fun _ _ _ h => h) (Or.inl ⟨by rfl, ?_⟩) (by assumption) ?_
  rotate_left
  · intro w hSw; (try dsimp only at hSw); go_simp; try (with_reducible rfl)
  rotate_left 0
  try simp only [Act.put, List.setIfInBounds_toArray, List.set_cons_zero, List.set_cons_succ]
  refine wpAnyH_take (i := 21) (oi := ⟨some 44, _, _, _, _, _⟩) (v := ?_) rfl (by kernel_rfl) (by kernel_rfl) (by kernel_rfl) (fun _ _ _ h => h) (Or.inl ⟨by rfl, ?_⟩) (by assumption) ?_
  rotate_left
  · intro w hSw; (try dsimp only at hSw); go_simp; try (with_reducible rfl)
  rotate_left 0
  try simp only [Act.put, List.setIfInBounds_toArray, List.set_cons_zero, List.set_cons_succ]
  refine wpAnyH_take (i := 22) (oi := ⟨some 45, _, _, _, _, _⟩) (v := ?_) rfl (by kernel_rfl) (by kernel_rfl) (by kernel_rfl) (fun _ _ _ h => h) (Or.inl ⟨by rfl, ?_⟩) (by assumption) ?_
  rotate_left
  · intro w hSw; (try dsimp only at hSw); go_simp; try (with_reducible rfl)
  rotate_left 0
  try simp only [Act.put, List.setIfInBounds_toArray, List.set_cons_zero, List.set_cons_succ]
  refine wpAnyH_take (i := 23) (oi := ⟨some 46, _, _, _, _, _⟩) (v := (.agg (arr 32 fun i => bv (x3 i)))) rfl (by kernel_rfl) (by kernel_rfl) (by kernel_rfl) (fun _ _ _ h => h) (yieldsIf_load_at (by rfl) 23 _ rfl ⟨g1, 32, none⟩ rfl 32 (fun i => bv (x3 i)) 5 (fun W hS => HI1.out W hS) Tryd.underlying23 (by kernel_rfl)) (by assumption) ?_
  try simp only [Act.put, List.setIfInBounds_toArray, List.set_cons_zero, List.set_cons_succ]
  refine wpAnyH_take (i := 24) (oi := ⟨some 47, _, _, _, _, _⟩) (v := ?_) rfl (by kernel_rfl) (by kernel_rfl) (by kernel_rfl) (fun _ _ _ h => h) (Or.inl ⟨by rfl, ?_⟩) (by assumption) ?_
  rotate_left
  · intro w hSw; (try dsimp only at hSw); go_simp; try (with_reducible rfl)
  rotate_left 0
  try simp only [Act.put, List.setIfInBounds_toArray, List.set_cons_zero, List.set_cons_succ]
  refine wpAnyH_take (i := 25) (oi := ⟨some 48, _, _, _, _, _⟩) (v := ?_) rfl (by kernel_rfl) (by kernel_rfl) (by kernel_rfl) (fun _ _ _ h => h) (Or.inl ⟨by rfl, ?_⟩) (by assumption) ?_
  rotate_left
  · intro w hSw; (try dsimp only at hSw); go_simp; try (with_reducible rfl)
  rotate_left 0
  try simp only [Act.put, List.setIfInBounds_toArray, List.set_cons_zero, List.set_cons_succ]
  refine wpAnyH_take (i := 26) (oi := ⟨some 49, _, _, _, _, _⟩) (v := (.agg (arr 32 fun i => bv (x3 i)))) rfl (by kernel_rfl) (by kernel_rfl) (by kernel_rfl) (fun _ _ _ h => h) (yieldsIf_load_at (by rfl) 23 _ rfl ⟨w.heap.size, 64, none⟩ rfl 32 (fun i => bv (x3 i)) 5 (fun W hS => HL2.out W hS) Tryd.underlying23 (by kernel_rfl)) (by assumption) ?_
  try simp only [Act.put, List.setIfInBounds_toArray, List.set_cons_zero, List.set_cons_succ]
  refine wpAnyH_take (i := 27) (oi := ⟨some 50, _, _, _, _, _⟩) (v := ?_) rfl (by kernel_rfl) (by kernel_rfl) (by kernel_rfl) (fun _ _ _ h => h) (Or.inl ⟨by rfl, ?_⟩) (by assumption) ?_
  rotate_left
  · intro w hSw; (try dsimp only at hSw); go_simp; try (with_reducible rfl)
  rotate_left 0
  try simp only [Act.put, List.setIfInBounds_toArray, List.set_cons_zero, List.set_cons_succ]
  refine wpAnyH_take (i := 28) (oi := ⟨some 51, _, _, _, _, _⟩) (v := ?_) rfl (by kernel_rfl) (by kernel_rfl) (by kernel_rfl) (fun _ _ _ h => h) (Or.inl ⟨by rfl, ?_⟩) (by assumption) ?_
  rotate_left
  · intro w hSw; (try dsimp only at hSw); go_simp; try (with_reducible rfl)
  rotate_left 0
  try simp only [Act.put, List.setIfInBounds_toArray, List.set_cons_zero, List.set_cons_succ]
  refine wpAnyH_take (i := 29) (oi := ⟨some 52, _, _, _, _, _⟩) (v := ?_) rfl (by kernel_rfl) (by kernel_rfl) (by kernel_rfl) (fun _ _ _ h => h) (Or.inl ⟨by rfl, ?_⟩) (by assumption) ?_
  rotate_left
  · intro w hSw; (try dsimp only at hSw); go_simp; try (with_reducible rfl)
  rotate_left 0
  try simp only [Act.put, List.setIfInBounds_toArray, List.set_cons_zero, List.set_cons_succ]
  refine wpAnyH_take (i := 30) (oi := ⟨some 53, _, _, _, _, _⟩) (v := ?_) rfl (by kernel_rfl) (by kernel_rfl) (by kernel_rfl) (fun _ _ _ h => h) (Or.inl ⟨by rfl, ?_⟩) (by assumption) ?_
  rotate_left
  · intro w hSw; (try dsimp only at hSw); go_simp; try (with_reducible rfl)
  rotate_left 0
  try simp only [Act.put, List.setIfInBounds_toArray, List.set_cons_zero, List.set_cons_succ]
  refine wpAnyH_take (i := 31) (oi := ⟨some 54, _, _, _, _, _⟩) (v := ?_) rfl (by kernel_rfl) (by kernel_rfl) (by kernel_rfl) (fun _ _ _ h => h) (Or.inl ⟨by rfl, ?_⟩) (by assumption) ?_
  rotate_left
  · intro w hSw; (try dsimp only at hSw); go_simp; try (with_reducible rfl)
  rotate_left 0
  try simp only [Act.put, List.setIfInBounds_toArray, List.set_cons_zero, List.set_cons_succ]
  refine wpAnyH_take (i := 32) (oi := ⟨some 55, _, _, _, _, _⟩) (v := ?_) rfl (by kernel_rfl) (by kernel_rfl) (by kernel_rfl) (fun _ _ _ h => h) (Or.inl ⟨by rfl, ?_⟩) (by assumption) ?_
  rotate_left
  · intro w hSw; (try dsimp only at hSw); go_simp; try (with_reducible rfl)
  rotate_left 0
  try simp only [Act.put, List.setIfInBounds_toArray, List.set_cons_zero, List.set_cons_succ]
  refine wpAnyH_take (i := 33) (oi := ⟨some 56, _, _, _, _, _⟩) (v := ?_) rfl (by kernel_rfl) (by kernel_rfl) (by kernel_rfl) (fun _ _ _ h => h) (Or.inl ⟨by rfl, ?_⟩) (by assumption) ?_
  rotate_left
  · intro w hSw; (try dsimp only at hSw); go_simp; try (with_reducible rfl)
  rotate_left 0
  try simp only [Act.put, List.setIfInBounds_toArray, List.set_cons_zero, List.set_cons_succ]
  refine wpAnyH_take (i := 34) (oi := ⟨some 57, _, _, _, _, _⟩) (v := ?_) rfl (by kernel_rfl) (by kernel_rfl) (by kernel_rfl) (fun _ _ _ h => h) (Or.inl ⟨by rfl, ?_⟩) (by assumption) ?_
  rotate_left
  · intro w hSw; (try dsimp only at hSw); go_simp; try (with_reducible rfl)
  rotate_left 0
  try simp only [Act.put, List.setIfInBounds_toArray, List.set_cons_zero, List.set_cons_succ]
  refine wpAnyH_take (i := 35) (oi := ⟨some 58, _, _, _, _, _⟩) (v := ?_) rfl (by kernel_rfl) (by kernel_rfl) (by kernel_rfl) (fun _ _ _ h => h) (Or.inl ⟨by rfl, ?_⟩) (by assumption) ?_
  rotate_left
  · intro w hSw; (try dsimp only at hSw); go_simp; try (with_reducible rfl)
  rotate_left 0
  try simp only [Act.put, List.setIfInBounds_toArray, List.set_cons_zero, List.set_cons_succ]
  refine wpAnyH_take (i := 36) (oi := ⟨some 59, _, _, _, _, _⟩) (v := ?_) rfl (by kernel_rfl) (by kernel_rfl) (by kernel_rfl) (fun _ _ _ h => h) (Or.inl ⟨by rfl, ?_⟩) (by assumption) ?_
  rotate_left
  · intro w hSw; (try dsimp only at hSw); go_simp; try (with_reducible rfl)
  rotate_left 0
  try simp only [Act.put, List.setIfInBounds_toArray, List.set_cons_zero, List.set_cons_succ]
  refine wpAnyH_take (i := 37) (oi := ⟨some 60, _, _, _, _, _⟩) (v := (.agg (arr 32 fun i => bv (x3 i)))) rfl (by kernel_rfl) (by kernel_rfl) (by kernel_rfl) (fun _ _ _ h => h) (yieldsIf_load_at (by rfl) 23 _ rfl ⟨g2, 0, none⟩ rfl 32 (fun i => bv (x3 i)) 5 (fun W hS => HC0.out W hS) Tryd.underlying23 (by kernel_rfl)) (by assumption) ?_
  try simp only [Act.put, List.setIfInBounds_toArray, List.set_cons_zero, List.set_cons_succ]
  refine wpAnyH_take (i := 38) (oi := ⟨some 61, _, _, _, _, _⟩) (v := ?_) rfl (by kernel_rfl) (by kernel_rfl) (by kernel_rfl) (fun _ _ _ h => h) (Or.inl ⟨by rfl, ?_⟩) (by assumption) ?_
  rotate_left
  · intro w hSw; (try dsimp only at hSw); go_simp; try (with_reducible rfl)
  rotate_left 0
  try simp only [Act.put, List.setIfInBounds_toArray, List.set_cons_zero, List.set_cons_succ]
  refine wpAnyH_take (i := 39) (oi := ⟨some 62, _, _, _, _, _⟩) (v := ?_) rfl (by kernel_rfl) (by kernel_rfl) (by kernel_rfl) (fun _ _ _ h => h) (Or.inl ⟨by rfl, ?_⟩) (by assumption) ?_
  rotate_left
  · intro w hSw; (try dsimp only at hSw); go_simp; try (with_reducible rfl)
  rotate_left 0
  try simp only [Act.put, List.setIfInBounds_toArray, List.set_cons_zero, List.set_cons_succ]
  refine wpAnyH_take (i := 40) (oi := ⟨some 63, _, _, _, _, _⟩) (v := (.agg (arr 32 fun i => bv (x3 i)))) rfl (by kernel_rfl) (by kernel_rfl) (by kernel_rfl) (fun _ _ _ h => h) (yieldsIf_load_at (by rfl) 23 _ rfl ⟨w.heap.size, 64, none⟩ rfl 32 (fun i => bv (x3 i)) 5 (fun W hS => HL2.out W hS) Tryd.underlying23 (by kernel_rfl)) (by assumption) ?_
  try simp only [Act.put, List.setIfInBounds_toArray, List.set_cons_zero, List.set_cons_succ]
  refine wpAnyH_take (i := 41) (oi := ⟨some 64, _, _, _, _, _⟩) (v := ?_) rfl (by kernel_rfl) (by kernel_rfl) (by kernel_rfl) (fun _ _ _ h => h) (Or.inl ⟨by rfl, ?_⟩) (by assumption) ?_
  rotate_left
  · intro w hSw; (try dsimp only at hSw); go_simp; try (with_reducible rfl)
  rotate_left 0
  try simp only [Act.put, List.setIfInBounds_toArray, List.set_cons_zero, List.set_cons_succ]
  refine wpAnyH_take (i := 42) (oi := ⟨some 65, _, _, _, _, _⟩) (v := ?_) rfl (by kernel_rfl) (by kernel_rfl) (by kernel_rfl) (fun _ _ _ h => h) (Or.inl ⟨by rfl, ?_⟩) (by assumption) ?_
  rotate_left
  · intro w hSw; (try dsimp only at hSw); go_simp; try (with_reducible rfl)
  rotate_left 0
  try simp only [Act.put, List.setIfInBounds_toArray, List.set_cons_zero, List.set_cons_succ]
  refine wpAnyH_take (i := 43) (oi := ⟨some 66, _, _, _, _, _⟩) (v := ?_) rfl (by kernel_rfl) (by kernel_rfl) (by kernel_rfl) (fun _ _ _ h => h) (Or.inl ⟨by rfl, ?_⟩) (by assumption) ?_
  rotate_left
  · intro w hSw; (try dsimp only at hSw); go_simp; try (with_reducible rfl)
  rotate_left 0
  try simp only [Act.put, List.setIfInBounds_toArray, List.set_cons_zero, List.set_cons_succ]
  refine wpAnyH_take (i := 44) (oi := ⟨some 67, _, _, _, _, _⟩) (v := ?_) rfl (by kernel_rfl) (by kernel_rfl) (by kernel_rfl) (fun _ _ _ h => h) (Or.inl ⟨by rfl, ?_⟩) (by assumption) ?_
  rotate_left
  · intro w hSw; (try dsimp only at hSw); go_simp; try (with_reducible rfl)
  rotate_left 0
  try simp only [Act.put, List.setIfInBounds_toArray, List.set_cons_zero, List.set_cons_succ]
  refine wpAnyH_take (i := 45) (oi := ⟨some 68, _, _, _, _, _⟩) (v := ?_) rfl (by kernel_rfl) (by kernel_rfl) (by kernel_rfl) (fun _ _ _ h => h) (Or.inl ⟨by rfl, ?_⟩) (by assumption) ?_
  rotate_left
  · intro w hSw; (try dsimp only at hSw); go_simp; try (with_reducible rfl)
  rotate_left 0
  try simp only [Act.put, List.setIfInBounds_toArray, List.set_cons_zero, List.set_cons_succ]
  refine wpAnyH_take (i := 46) (oi := ⟨some 69, _, _, _, _, _⟩) (v := (.agg (arr 32 fun i => bv (x2 i)))) rfl (by kernel_rfl) (by kernel_rfl) (by kernel_rfl) (fun _ _ _ h => h) (yieldsIf_load_at (by rfl) 23 _ rfl ⟨w.heap.size, 32, none⟩ rfl 32 (fun i => bv (x2 i)) 5 (fun W hS => HL1.out W hS) Tryd.underlying23 (by kernel_rfl)) (by assumption) ?_
  try simp only [Act.put, List.setIfInBounds_toArray, List.set_cons_zero, List.set_cons_succ]
  refine wpAnyH_take (i := 47) (oi := ⟨some 70, _, _, _, _, _⟩) (v := ?_) rfl (by kernel_rfl) (by kernel_rfl) (by kernel_rfl) (fun _ _ _ h => h) (Or.inl ⟨by rfl, ?_⟩) (by assumption) ?_
  rotate_left
  · intro w hSw; (try dsimp only at hSw); go_simp; try (with_reducible rfl)
  rotate_left 0
  try simp only [Act.put, List.setIfInBounds_toArray, List.set_cons_zero, List.set_cons_succ]
  refine wpAnyH_take (i := 48) (oi := ⟨some 71, _, _, _, _, _⟩) (v := (.agg (arr 32 fun i => bv (R i)))) rfl (by kernel_rfl) (by kernel_rfl) (by kernel_rfl) (fun _ _ _ h => h) (yieldsIf_load_at (by rfl) 23 _ rfl ⟨W3.heap.size, 0, none⟩ rfl 32 (fun i => bv (R i)) 5 (fun W hS => HR0.out W hS) Tryd.underlying23 (by kernel_rfl)) (by assumption) ?_
  try simp only [Act.put, List.setIfInBounds_toArray, List.set_cons_zero, List.set_cons_succ]
  refine wpAnyH_ready (rs := [49]) (by kernel_rfl) (by simp) ?_
  refine (AllReadyH.cons (o := ⟨some 72, _, _, _, _, _⟩) rfl (fun K hK => ?_) AllReadyH.nil)
  (try rw [if_pos (by rfl)])
  go_simp
  refine (HCI1.out _ hbX).mono ?_
  rintro e W5 ⟨rfl, hb5⟩
  replace hbX := hbX.trans (hb5.mono hbX.size)
  try dsimp only
  refine hK.out _ _ (hbX) (fun hHeld => ?_)
  clear hK K
  try simp only [Act.put, List.setIfInBounds_toArray, List.set_cons_zero, List.set_cons_succ]
  refine wpAnyH_take (i := 50) (oi := ⟨some 73, _, _, _, _, _⟩) (v := ?_) rfl (by kernel_rfl) (by kernel_rfl) (by kernel_rfl) (fun _ _ _ h => h) (Or.inl ⟨by rfl, ?_⟩) (by assumption) ?_
  rotate_left
  · intro w hSw; (try dsimp only at hSw); go_simp; try (with_reducible rfl)
  rotate_left 0
  try simp only [Act.put, List.setIfInBounds_toArray, List.set_cons_zero, List.set_cons_succ]
  refine wpAnyH_take (i := 51) (oi := ⟨some 74, _, _, _, _, _⟩) (v := ?_) rfl (by kernel_rfl) (by kernel_rfl) (by kernel_rfl) (fun _ _ _ h => h) (Or.inl ⟨by rfl, ?_⟩) (by assumption) ?_
  rotate_left
  · intro w hSw; (try dsimp only at hSw); go_simp; try (with_reducible rfl)
  rotate_left 0
  try simp only [Act.put, List.setIfInBounds_toArray, List.set_cons_zero, List.set_cons_succ]
  refine wpAnyH_take (i := 52) (oi := ⟨some 75, _, _, _, _, _⟩) (v := ?_) rfl (by kernel_rfl) (by kernel_rfl) (by kernel_rfl) (fun _ _ _ h => h) (Or.inl ⟨by rfl, ?_⟩) (by assumption) ?_
  rotate_left
  · intro w hSw; (try dsimp only at hSw); go_simp; try (with_reducible rfl)
  rotate_left 0
  try simp only [Act.put, List.setIfInBounds_toArray, List.set_cons_zero, List.set_cons_succ]
  refine wpAnyH_take (i := 53) (oi := ⟨some 76, _, _, _, _, _⟩) (v := ?_) rfl (by kernel_rfl) (by kernel_rfl) (by kernel_rfl) (fun _ _ _ h => h) (Or.inl ⟨by rfl, ?_⟩) (by assumption) ?_
  rotate_left
  · intro w hSw; (try dsimp only at hSw); go_simp; try (with_reducible rfl)
  rotate_left 0
  try simp only [Act.put, List.setIfInBounds_toArray, List.set_cons_zero, List.set_cons_succ]
  refine wpAnyH_take (i := 54) (oi := ⟨some 77, _, _, _, _, _⟩) (v := ?_) rfl (by kernel_rfl) (by kernel_rfl) (by kernel_rfl) (fun _ _ _ h => h) (Or.inl ⟨by rfl, ?_⟩) (by assumption) ?_
  rotate_left
  · intro w hSw; (try dsimp only at hSw); go_simp; try (with_reducible rfl)
  rotate_left 0
  try simp only [Act.put, List.setIfInBounds_toArray, List.set_cons_zero, List.set_cons_succ]
  refine wpAnyH_take (i := 55) (oi := ⟨some 78, _, _, _, _, _⟩) (v := (.agg (arr 32 fun i => bv (x1 i)))) rfl (by kernel_rfl) (by kernel_rfl) (by kernel_rfl) (fun _ _ _ h => h) (yieldsIf_load_at (by rfl) 23 _ rfl ⟨w.heap.size, 0, none⟩ rfl 32 (fun i => bv (x1 i)) 5 (fun W hS => HL0.out W hS) Tryd.underlying23 (by kernel_rfl)) (by assumption) ?_
  try simp only [Act.put, List.setIfInBounds_toArray, List.set_cons_zero, List.set_cons_succ]
  refine wpAnyH_take (i := 56) (oi := ⟨some 79, _, _, _, _, _⟩) (v := ?_) rfl (by kernel_rfl) (by kernel_rfl) (by kernel_rfl) (fun _ _ _ h => h) (Or.inl ⟨by rfl, ?_⟩) (by assumption) ?_
  rotate_left
  · intro w hSw; (try dsimp only at hSw); go_simp; try (with_reducible rfl)
  rotate_left 0
  try simp only [Act.put, List.setIfInBounds_toArray, List.set_cons_zero, List.set_cons_succ]
  refine wpAnyH_take (i := 57) (oi := ⟨some 80, _, _, _, _, _⟩) (v := (.agg (arr 32 fun i => bv (R i)))) rfl (by kernel_rfl) (by kernel_rfl) (by kernel_rfl) (fun _ _ _ h => h) (yieldsIf_load_at (by rfl) 23 _ rfl ⟨W3.heap.size, 0, none⟩ rfl 32 (fun i => bv (R i)) 5 (fun W hS => HR0.out W hS) Tryd.underlying23 (by kernel_rfl)) (by assumption) ?_
  try simp only [Act.put, List.setIfInBounds_toArray, List.set_cons_zero, List.set_cons_succ]
  refine wpAnyH_ready (rs := [58]) (by kernel_rfl) (by simp) ?_
  refine (AllReadyH.cons (o := ⟨some 81, _, _, _, _, _⟩) rfl (fun K hK => ?_) AllReadyH.nil)
  (try rw [if_pos (by rfl)])
  go_simp
  refine (HCI2.out _ hbX).mono ?_
  rintro e W6 ⟨rfl, hb6⟩
  replace hbX := hbX.trans (hb6.mono hbX.size)
  try dsimp only
  refine hK.out _ _ (hbX) (fun hHeld => ?_)
  clear hK K
  try simp only [Act.put, List.setIfInBounds_toArray, List.set_cons_zero, List.set_cons_succ]
  refine wpAnyH_take (i := 59) (oi := ⟨some 82, _, _, _, _, _⟩) (v := ?_) rfl (by kernel_rfl) (by kernel_rfl) (by kernel_rfl) (fun _ _ _ h => h) (Or.inl ⟨by rfl, ?_⟩) (by assumption) ?_
  rotate_left
  · intro w hSw; (try dsimp only at hSw); go_simp; try (with_reducible rfl)
  rotate_left 0
  try simp only [Act.put, List.setIfInBounds_toArray, List.set_cons_zero, List.set_cons_succ]
  refine wpAnyH_take (i := 60) (oi := ⟨some 83, _, _, _, _, _⟩) (v := ?_) rfl (by kernel_rfl) (by kernel_rfl) (by kernel_rfl) (fun _ _ _ h => h) (Or.inl ⟨by rfl, ?_⟩) (by assumption) ?_
  rotate_left
  · intro w hSw; (try dsimp only at hSw); go_simp; try (with_reducible rfl)
  rotate_left 0
  try simp only [Act.put, List.setIfInBounds_toArray, List.set_cons_zero, List.set_cons_succ]
  refine wpAnyH_take (i := 61) (oi := ⟨some 84, _, _, _, _, _⟩) (v := ?_) rfl (by kernel_rfl) (by kernel_rfl) (by kernel_rfl) (fun _ _ _ h => h) (Or.inl ⟨by rfl, ?_⟩) (by assumption) ?_
  rotate_left
  · intro w hSw; (try dsimp only at hSw); go_simp; try (with_reducible rfl)
  rotate_left 0
  try simp only [Act.put, List.setIfInBounds_toArray, List.set_cons_zero, List.set_cons_succ]
  refine wpAnyH_take (i := 62) (oi := ⟨some 85, _, _, _, _, _⟩) (v := ?_) rfl (by kernel_rfl) (by kernel_rfl) (by kernel_rfl) (fun _ _ _ h => h) (Or.inl ⟨by rfl, ?_⟩) (by assumption) ?_
  rotate_left
  · intro w hSw; (try dsimp only at hSw); go_simp; try (with_reducible rfl)
  rotate_left 0
  try simp only [Act.put, List.setIfInBounds_toArray, List.set_cons_zero, List.set_cons_succ]
  refine wpAnyH_take (i := 63) (oi := ⟨some 86, _, _, _, _, _⟩) (v := ?_) rfl (by kernel_rfl) (by kernel_rfl) (by kernel_rfl) (fun _ _ _ h => h) (Or.inl ⟨by rfl, ?_⟩) (by assumption) ?_
  rotate_left
  · intro w hSw; (try dsimp only at hSw); go_simp; try (with_reducible rfl)
  rotate_left 0
  try simp only [Act.put, List.setIfInBounds_toArray, List.set_cons_zero, List.set_cons_succ]
  refine wpAnyH_take (i := 65) (oi := ⟨some 88, _, _, _, _, _⟩) (v := (.agg (arr 32 fun i => bv (R i)))) rfl (by kernel_rfl) (by kernel_rfl) (by kernel_rfl) (fun _ _ _ h => h) (yieldsIf_load_at (by rfl) 23 _ rfl ⟨W3.heap.size, 0, none⟩ rfl 32 (fun i => bv (R i)) 5 (fun W hS => HR0.out W hS) Tryd.underlying23 (by kernel_rfl)) (by assumption) ?_
  try simp only [Act.put, List.setIfInBounds_toArray, List.set_cons_zero, List.set_cons_succ]
  refine wpAnyH_take (i := 66) (oi := ⟨some 89, _, _, _, _, _⟩) (v := ?_) rfl (by kernel_rfl) (by kernel_rfl) (by kernel_rfl) (fun _ _ _ h => h) (Or.inl ⟨by rfl, ?_⟩) (by assumption) ?_
  rotate_left
  · intro w hSw; (try dsimp only at hSw); go_simp; try (with_reducible rfl)
  rotate_left 0
  try simp only [Act.put, List.setIfInBounds_toArray, List.set_cons_zero, List.set_cons_succ]
  refine wpAnyH_ready (rs := [64]) (by kernel_rfl) (by simp) ?_
  refine (AllReadyH.cons (o := ⟨some 87, _, _, _, _, _⟩) rfl (fun K hK => ?_) AllReadyH.nil)
  (try rw [if_pos (by rfl)])
  go_simp
  refine (HRT2.out _ hbX).mono ?_
  rintro e W7 ⟨rfl, hb7⟩
  replace hbX := hbX.trans (hb7.mono hbX.size)
  try dsimp only
  refine hK.out _ _ (hbX) (fun hHeld => ?_)
  clear hK K
  try simp only [Act.put, List.setIfInBounds_toArray, List.set_cons_zero, List.set_cons_succ]
  refine wpAnyH_ready (rs := [67]) (by kernel_rfl) (by simp) ?_
  refine (AllReadyH.cons (o := ⟨some 90, _, _, _, _, _⟩) rfl (fun K hK => ?_) AllReadyH.nil)
  (try rw [if_pos (by rfl)])
  go_simp
  refine (HCC.out _ hbX).mono ?_
  rintro e W8 ⟨rfl, hb8⟩
  replace hbX := hbX.trans (hb8.mono hbX.size)
  try dsimp only
  refine hK.out _ _ (hbX) (fun hHeld => ?_)
  clear hK K
  try simp only [Act.put, List.setIfInBounds_toArray, List.set_cons_zero, List.set_cons_succ]
  refine wpAnyH_take (i := 68) (oi := ⟨some 91, _, _, _, _, _⟩) (v := ?_) rfl (by kernel_rfl) (by kernel_rfl) (by kernel_rfl) (fun _ _ _ h => h) (Or.inl ⟨by rfl, ?_⟩) (by assumption) ?_
  rotate_left
  · intro w hSw; (try dsimp only at hSw); go_simp; try (with_reducible rfl)
  rotate_left 0
  try simp only [Act.put, List.setIfInBounds_toArray, List.set_cons_zero, List.set_cons_succ]
  refine wpAnyH_take (i := 69) (oi := ⟨some 92, _, _, _, _, _⟩) (v := ?_) rfl (by kernel_rfl) (by kernel_rfl) (by kernel_rfl) (fun _ _ _ h => h) (Or.inl ⟨by rfl, ?_⟩) (by assumption) ?_
  rotate_left
  · intro w hSw; (try dsimp only at hSw); go_simp; try (with_reducible rfl)
  rotate_left 0
  try simp only [Act.put, List.setIfInBounds_toArray, List.set_cons_zero, List.set_cons_succ]
  refine wpAnyH_take (i := 70) (oi := ⟨some 0, _, _, _, _, _⟩) (v := ?_) rfl (by kernel_rfl) (by kernel_rfl) (by kernel_rfl) (fun _ _ _ h => h) (Or.inl ⟨by rfl, ?_⟩) (by assumption) ?_
  rotate_left
  · intro w hSw; (try dsimp only at hSw); go_simp; try (with_reducible rfl)
  rotate_left 0
  try simp only [Act.put, List.setIfInBounds_toArray, List.set_cons_zero]
  refine wpAnyH_done (by kernel_rfl) ?_ _
  have HX := Lib.hid (HB4.out.trans (hbX.mono HB4.out.size))
  clear hbX
  go_wp2
  go_ret
  exact ⟨rfl, HX.out⟩
end Go.Proofs.YtdfgffmefonelaaDoor
