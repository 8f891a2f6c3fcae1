/-
  sum.Leaf and sum.Node: for whatever entry, whatever two sums, in whatever memory in which the tables read as they are laid.
-/
import Derived.Test.YtphknicdllcbmaaDoorStrT
import Derived.Test.YtphknicdllcbmaaDoorFrame
import Derived.Deep.AppendLies
import Derived.Outline
import Derived.Test.YtphknicdllcbmaaDoorOfT
import Derived.Deep.RegionHeld3
namespace Go.Proofs.YtphknicdllcbmaaDoor
open Go Go.RowKit Go.Shelf

set_option maxRecDepth 100000 in
set_option maxHeartbeats 1000000 in
theorem node_any (l r : Nat → UInt8) (w : World) (hT : Tables w) :
    Calls Tryd.prog 30 #[.agg (arr 32 fun i => bv (l i)), .agg (arr 32 fun i => bv (r i))] w fun e w' => e = .returned (shaV (1 :: (id32 l ++ id32 r))) ∧ Below w.heap.size w w' := by
  have HT := Lib.hid hT
  clear hT
  have hZ32 : Hid (Array.replicate 32 (bv 0) = arr 32 fun _ => bv 0) := Lib.hid (by rw [← upto_none 32 (fun _ => bv 0) (bv 0)]; exact arr_congr fun i _ => by simp)
  obtain ⟨al, hal⟩ : ∃ al, (arr 32 fun i => bv (l i)) = al := ⟨_, rfl⟩
  obtain ⟨ar, har⟩ : ∃ ar, (arr 32 fun i => bv (r i)) = ar := ⟨_, rfl⟩
  rw [hal, har]
  have HAL := Lib.hid hal
  have HAR := Lib.hid har
  clear hal har
  go_enter Tryd.func30, Tryd.ntmps30
  go_wp2_with fail
  generalize hW : (World.alloc (World.alloc (World.alloc w _) _) _) = W
  have c0 : Blk W w.heap.size 30 (arr 32 fun i => bv (l i)) := by rw [← hW, HAL.out]; exact ((Blk.newAt _ _ rfl rfl).alloc _).alloc _
  have c1 : Blk W (w.heap.size + 1) 30 (arr 32 fun i => bv (r i)) := by rw [← hW, HAR.out]; exact (Blk.newAt _ _ (by simp) rfl).alloc _
  have r0 : Blk W (w.heap.size + 1 + 1) 30 (arr 32 fun _ => bv 0) := by rw [← hW]; exact Blk.newAt _ _ (by simp) hZ32.out
  have b0 : Below w.heap.size w W := by rw [← hW]; exact (((Below.refl _ _).alloc (Nat.le_refl _) _).alloc (by simp) _).alloc (by simp; omega) _
  have s0 := b0.size
  clear hW
  have OFN : Hid (∀ W' g1 g2, Below W.heap.size W W' → Blk W' g1 5 (arr 1 fun _ => bv 1) → Blk W' g2 47 #[.slice (some ⟨g1, 0, none⟩) 1 1, .slice (some ⟨w.heap.size, 0, none⟩) 32 32, .slice (some ⟨w.heap.size + 1, 0, none⟩) 32 32] →
      Calls Tryd.prog 31 #[.slice (some ⟨g2, 0, none⟩) 3 3] W' fun e w' => e = .returned (.agg (arr 32 fun i => bv (sha (1 :: (id32 l ++ id32 r)) i))) ∧ Below W'.heap.size W' w') := Lib.hid fun W' g1 g2 hb h1 h2 => by
    have k0 := c0.below hb c0.lt
    have k1 := c1.below hb c1.lt
    have hz := hb.size
    have hrp : RdP W' (fun b => b < W'.heap.size) (some ⟨g2, 0, none⟩) [[1], id32 l, id32 r] := fun k hk => by
      have : k = 0 ∨ k = 1 ∨ k = 2 := by simp at hk; omega
      rcases this with rfl | rfl | rfl
      · exact ⟨_, _, rfl, h2.lt, by rw [add_zero_block, h2.cell]; rfl, rdB_blk h1 (fun i hi => by
          obtain rfl : i = 0 := (by simp at hi; omega)
          rfl) rfl (by simp) (by simp) (by simp) h1.lt⟩
      · exact ⟨_, _, rfl, h2.lt, by rw [add_zero_block, h2.cell]; rfl, rdB_blk k0 (fun i hi => by simp [id32] at hi ⊢; simp [hi]) (by simp [id32]) (by simp) (by simp) (by simp) k0.lt⟩
      · exact ⟨_, _, rfl, h2.lt, by rw [add_zero_block, h2.cell]; rfl, rdB_blk k1 (fun i hi => by simp [id32] at hi ⊢; simp [hi]) (by simp [id32]) (by simp) (by simp) (by simp) k1.lt⟩
    have := callsIn_wide.1 (of_any (some ⟨g2, 0, none⟩) 3 [[1], id32 l, id32 r] (by simp) (by simp [id32]) W' (HT.out.below (b0.trans (hb.mono s0))) hrp)
    rw [show ([[1], id32 l, id32 r] : List (List UInt8)).flatten = 1 :: (id32 l ++ id32 r) from by simp] at this
    exact this
  have HR0 := Lib.hid r0
  have HB := Lib.hid b0
  clear r0 c0 c1 b0 HAL HAR hZ32
  have kb : Below W.heap.size W ((W.alloc (.cells #[.int .u8 1] 5)).alloc (.cells #[.slice (some ⟨W.heap.size, 0, none⟩) 1 1, .slice (some ⟨w.heap.size, 0, none⟩) 32 32, .slice (some ⟨w.heap.size + 1, 0, none⟩) 32 32] 47)).drew := (((Below.refl _ _).alloc (Nat.le_refl _) _).alloc (by simp) _).drew
  obtain ⟨cs, e1, hlen, hone, hinfo, e2⟩ := sum_cells (1 :: (id32 l ++ id32 r))
  rw [e2] at OFN
  have E1 := Lib.hid e1
  have THR : Hid (∀ W', Below W.heap.size W W' → W'.there (w.heap.size + 1 + 1) 0 32) := Lib.hid fun W' hb => there_blk (HR0.out.below hb HR0.out.lt)
  clear e1 e2
  go_region_held3 (fun w' => w'.there (w.heap.size + 1 + 1) 0 32 ∧ Below w.heap.size w w') ((first | (refine (fun hk => And.intro (THR.out _ hk) (HB.out.trans (hk.mono s0))) ?_; (repeat' (first | assumption | exact Below.refl _ _ | refine Kp.drew ?_ | refine Kp.alloc ?_ _ | (apply Kp.call; rotate_left; assumption))); done) | exact ⟨World.there_setCells (THR.out _ q5) _ _ _, Go.Lib.below_setCells _ (by omega) _ _ (HB.out.trans (q5.mono s0))⟩)) ((go_at_call 31; refine (OFN.out _ W.heap.size (W.heap.size + 1) kb ?_ ?_).mono ?_; (exact ((Blk.newAt W _ rfl (by rw [arr_list]; rfl)).alloc _).drew); (exact (Blk.newAt _ _ (by simp) rfl).drew); rintro e w5 ⟨rfl, hb5⟩; have q5 : Below W.heap.size W w5 := kb.trans (hb5.mono kb.size)))
  have hth := World.rangeAt_setCells_same w5 (w.heap.size + 1 + 1) 0 cs (by rw [hlen]; exact THR.out _ q5)
  have hbl : Below w.heap.size w (w5.setCells (w.heap.size + 1 + 1) 0 cs) := Go.Lib.below_setCells _ (by omega) _ _ (HB.out.trans (q5.mono s0))
  generalize w5.setCells (w.heap.size + 1 + 1) 0 cs = w6 at *
  have HTH := Lib.hid hth
  have HBL := Lib.hid hbl
  have HI := Lib.hid hinfo
  clear hth hbl hb5 q5 kb hone hlen hinfo
  go_wp2
  refine bodyPost_ret (v := .agg cs.toArray) (results_cell_mid (p := 4) (ty := 30) rfl _ _ (w.heap.size + 1 + 1) cs _ rfl HTH.out Tryd.underlying30 rfl HI.out) rfl ⟨by rw [E1.out], HBL.out⟩
end Go.Proofs.YtphknicdllcbmaaDoor
