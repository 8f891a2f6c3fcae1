/-
  Layer 10: the reference's count, Link, own, Record. In whatever memory. No condition.
-/
import Derived.Test.YtgpbpdjamimbfaaDoorJrnWr
import Derived.Test.YtgpbpdjamimbfaaDoorRefForJ
namespace Go.Proofs.YtgpbpdjamimbfaaDoor
open Go Go.RowKit Go.Shelf

theorem rdS_two {W : World} {g : Nat} {a b : List UInt8} (h : Blk W g 9 #[.string ⟨a.toArray⟩, .string ⟨b.toArray⟩]) : RdS W (some ⟨g, 0, none⟩) [a, b] := fun k hk => by
  have : k = 0 ∨ k = 1 := by simp at hk; omega
  rcases this with rfl | rfl
  · exact ⟨_, rfl, h.lt, by rw [add_zero_block, h.cell]; rfl⟩
  · exact ⟨_, rfl, h.lt, by rw [add_zero_block, h.cell]; rfl⟩
set_option maxRecDepth 100000 in
set_option maxHeartbeats 1000000 in
/-- Three bytes of a number. -/
theorem refCount_any (n : Nat) (hn : n < 16777216) (w : World) : Calls Tryd.prog 56 #[.int .i64 (n : Int)] w fun e w' => e = .returned (.string ⟨(len3 n).toArray⟩) ∧ Below w.heap.size w w' := by
  have hn0 : (0 : Int) ≤ (n : Int) := by omega
  have hn1 : (n : Int) < 16777216 := by omega
  have e1 : (n : Int) / 65536 % 256 = ((UInt8.ofNat (n / 65536)).toNat : Int) := by rw [UInt8.toNat_ofNat']; omega
  have e2 : (n : Int) / 256 % 256 = ((UInt8.ofNat (n / 256)).toNat : Int) := by rw [UInt8.toNat_ofNat']; omega
  have e3 : (n : Int) % 256 = ((UInt8.ofNat n).toNat : Int) := by rw [UInt8.toNat_ofNat']; omega
  have k1 : Blk (w.alloc (.cells #[.int .u8 ((n : Int) / 65536 % 256), .int .u8 ((n : Int) / 256 % 256), .int .u8 ((n : Int) % 256)] 5)) w.heap.size 5 ((len3 n).map bv).toArray := by rw [e1, e2, e3]; exact Blk.newAt _ _ rfl rfl
  have hl3 : (len3 n).length = 3 := rfl
  have hcv := str_rd (ok := fun _ => True) (rdB_cells (n := 3) (c := 3) (fun i hi => by
    rw [k1.cell, List.getElem?_toArray, List.getElem?_map, List.getElem?_eq_getElem (by rw [hl3]; exact hi), List.getD_eq_getElem?_getD, List.getElem?_eq_getElem (by rw [hl3]; exact hi)]
    rfl) hl3 (Nat.le_refl _) (by omega) trivial)
  clear e1 e2 e3 k1
  go_enter Tryd.func56, Tryd.ntmps56
  go_wp2
  go_ret
  exact ⟨rfl, (Below.refl _ _).alloc (Nat.le_refl _) _⟩
set_option maxRecDepth 100000 in
set_option maxHeartbeats 1000000 in
/-- The sum of a record and all ahead of it. -/
theorem refLink_any (a : Nat → UInt8) (d : List UInt8) (hL : d.length ≤ 4194304) (w : World) : Calls Tryd.prog 29 #[.agg (arr 32 fun i => bv (a i)), .string ⟨d.toArray⟩] w fun e w' => e = .returned (.agg (arr 32 fun i => bv (withD a d i))) ∧ Below w.heap.size w w' := by
  have hZ32 : Hid (Array.replicate 32 (bv 0) = arr 32 fun _ => bv 0) := Lib.hid (by rw [← upto_none 32 (fun _ => bv 0) (bv 0)]; exact arr_congr fun i _ => by simp)
  have HF : Hid (∀ (g : Nat) (W : World), Blk W g 9 #[.string ⟨(id32 a).toArray⟩, .string ⟨d.toArray⟩] → Calls Tryd.prog 47 #[.string ⟨recP.toArray⟩, .slice (some ⟨g, 0, none⟩) 2 2] W fun e w' => e = .returned (shaV (forBytes recP [id32 a, d])) ∧ Below W.heap.size W w') := Lib.hid fun g W h => refFor_any recP (some ⟨g, 0, none⟩) 2 [id32 a, d] (by simp) (by rw [forBytes_two, id32_length]; unfold recP; simp; omega) W (rdS_two h)
  have HT := Lib.hid (fun W => text_any a W)
  obtain ⟨ia, hia⟩ : ∃ ia, id32 a = ia := ⟨_, rfl⟩
  rw [hia] at HF HT
  obtain ⟨al, hal⟩ : ∃ al, (arr 32 fun i => bv (a i)) = al := ⟨_, rfl⟩
  have hsz : al.size = 32 := by rw [← hal, arr_size]
  rw [hal] at HT ⊢
  have HAL := Lib.hid (And.intro hal hsz)
  have HIA := Lib.hid hia
  clear hal hsz hia hL
  go_enter Tryd.func29, Tryd.ntmps29
  go_upto_region 1 with fail
  generalize hW : World.alloc (World.alloc w _) _ = W
  have c0 : Blk W w.heap.size 37 al := by rw [← hW]; exact (Blk.newAt _ _ rfl rfl).alloc _
  have r0 : Blk W (w.heap.size + 1) 37 (arr 32 fun _ => bv 0) := by rw [← hW]; exact Blk.newAt _ _ (by simp) hZ32.out
  have b0 : Below w.heap.size w W := by rw [← hW]; exact ((Below.refl _ _).alloc (Nat.le_refl _) _).alloc (by simp) _
  have HR0 := Lib.hid r0
  have HB := Lib.hid b0
  clear hW r0 b0
  go_wp2_with (first
    | (guard_target = wpList _ _ _ (Oper.mk _ (.load 37 _) _ _ _ _ :: _) _ _; refine wpList_load_row rfl 37 _ rfl w.heap.size rfl 37 al (0, 0) _ c0 Tryd.underlying37 rfl (by rw [HAL.out.2]; kernel_rfl) ?_)
    | (go_at_call 48; refine (HT.out W).mono ?_; rintro e W1 ⟨rfl, hb1⟩; have HB1 := Lib.hid hb1; clear hb1)
    | (go_at_call 47; refine (HF.out W1.heap.size _ (Blk.newAt _ _ rfl rfl)).mono ?_; rintro e W2 ⟨rfl, hb2⟩; have hb12 : Below W.heap.size W W2 := (HB1.out.alloc HB1.out.size _).trans (hb2.mono (by have := HB1.out.size; simp; omega)); have hR2 := HR0.out.below hb12 HR0.out.lt; have HB2 := Lib.hid (HB.out.trans (hb12.mono HB.out.size)); clear hb2 hb12)
    | (guard_target = wpList _ _ _ (Oper.mk _ (.store 37 _ _) _ _ _ _ :: _) _ _; refine wpList_store_row rfl 37 _ _ rfl (w.heap.size + 1) (arr 32 fun i => bv (sha (forBytes recP [ia, d]) i)) rfl rfl 37 _ hR2 (by rw [arr_size]; kernel_rfl) (by rw [arr_size, arr_size]) (arr_all_bv _ _) ?_))
  refine bodyPost_ret (v := .agg (arr 32 fun i => bv (sha (forBytes recP [ia, d]) i))) (results_cell_row (p := 4) (ty := 37) rfl _ _ (w.heap.size + 1) 37 _ (0, 0) _ rfl (hR2.setRow _) Tryd.underlying37 rfl (by rw [arr_size]; kernel_rfl)) rfl ⟨?_, below_setRow HB2.out (by omega) _⟩
  rw [← HIA.out]
  rfl
end Go.Proofs.YtgpbpdjamimbfaaDoor
