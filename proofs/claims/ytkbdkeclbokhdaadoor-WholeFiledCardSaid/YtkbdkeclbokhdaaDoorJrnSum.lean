/-
  Layer 10: the sum of all records with one more; the bytes with which a record begins. In whatever memory in which the tables read as they are laid. No condition.
-/
import Derived.Test.YtkbdkeclbokhdaaDoorForJ
import Derived.Deep.RegionLaw
import Derived.Test.YtkbdkeclbokhdaaDoorQ12
import Derived.Deep.CutRange
import Derived.WalkMore
namespace Go.Proofs.YtkbdkeclbokhdaaDoor
open Go Go.RowKit Go.Shelf

def recP : List UInt8 := [114, 101, 99, 111, 114, 100]
def frontP : List UInt8 := [102, 114, 111, 110, 116]
/-- The sum of all records with one more. -/
def withD (a : Nat → UInt8) (d : List UInt8) : Nat → UInt8 := sha (forBytes recP [id32 a, d])
def len3 (n : Nat) : List UInt8 := [UInt8.ofNat (n / 65536), UInt8.ofNat (n / 256), UInt8.ofNat n]
/-- The bytes with which a record of so many bytes begins. -/
def frontB (a : Nat → UInt8) (n : Nat) : List UInt8 := len3 n ++ (id32 (sha (forBytes frontP [id32 a, len3 n]))).take 16
theorem id32_length (f : Nat → UInt8) : (id32 f).length = 32 := by simp [id32]
theorem frontB_length (a : Nat → UInt8) (n : Nat) : (frontB a n).length = 19 := by
  unfold frontB len3
  rw [List.length_append, List.length_take, id32_length]
  rfl
theorem rdB_id {W : World} {ok : Nat → Prop} {g t : Nat} {f : Nat → UInt8} (h : Blk W g t (arr 32 fun i => bv (f i))) (hok : ok g) : RdB W ok (.slice (some ⟨g, 0, none⟩) 32 32) (id32 f) :=
  rdB_blk h (fun i hi => by simp [id32]; simp [hi]) (id32_length f) (Nat.le_refl _) (Nat.le_refl _) (by omega) hok
theorem forBytes_two (p a b : List UInt8) : (forBytes p [a, b]).length = p.length + 1 + (4 + a.length) + (4 + b.length) := by
  unfold forBytes len4
  simp
  omega
set_option maxRecDepth 100000 in
set_option maxHeartbeats 1000000 in
theorem with_any (a : Nat → UInt8) (A : Option Addr) (n c : Nat) (d : List UInt8) (hn : d.length = n) (hL : n ≤ 1099511627776) (w : World) (hT : Tables w) (hr : RdB w (fun b => b < w.heap.size) (.slice A n c) d) :
    Calls Tryd.prog 40 #[.agg (arr 32 fun i => bv (a i)), .slice A n c] w fun e w' => e = .returned (.agg (arr 32 fun i => bv (withD a d i))) ∧ Below w.heap.size w w' := by
  have HT := Lib.hid hT
  have HR := Lib.hid hr
  clear hT hr
  have hZ32 : Hid (Array.replicate 32 (bv 0) = arr 32 fun _ => bv 0) := Lib.hid (by rw [← upto_none 32 (fun _ => bv 0) (bv 0)]; exact arr_congr fun i _ => by simp)
  obtain ⟨al, hal⟩ : ∃ al, (arr 32 fun i => bv (a i)) = al := ⟨_, rfl⟩
  rw [hal]
  have HAL := Lib.hid hal
  clear hal
  go_enter Tryd.func40, Tryd.ntmps40
  go_wp2_with fail
  generalize hW : (World.alloc (World.alloc (World.alloc w _) _) _) = W
  have c0 : Blk W w.heap.size 37 (arr 32 fun i => bv (a i)) := by rw [← hW, HAL.out]; exact ((Blk.newAt _ _ rfl rfl).alloc _).alloc _
  have r0 : Blk W (w.heap.size + 1) 37 (arr 32 fun _ => bv 0) := by rw [← hW]; exact (Blk.newAt _ _ (by simp) hZ32.out).alloc _
  have c1 : Blk W (w.heap.size + 2) 42 #[.slice (some ⟨w.heap.size, 0, none⟩) 32 32, .slice A n c] := by rw [← hW]; exact Blk.newAt _ _ (by simp) rfl
  have b0 : Below w.heap.size w W := by rw [← hW]; exact (((Below.refl _ _).alloc (Nat.le_refl _) _).alloc (by simp) _).alloc (by simp; omega) _
  have s0 := b0.size
  clear hW
  have hrp : RdP W (fun b => b < W.heap.size) (some ⟨w.heap.size + 2, 0, none⟩) [id32 a, d] := fun k hk => by
    have : k = 0 ∨ k = 1 := by simp at hk; omega
    rcases this with rfl | rfl
    · exact ⟨_, _, rfl, c1.lt, by rw [add_zero_block, c1.cell]; rfl, rdB_id c0 c0.lt⟩
    · exact ⟨_, _, rfl, c1.lt, by rw [add_zero_block, c1.cell]; rfl, (HR.out.kept fun a x ha h => (b0.cell (p := a) ha).trans h).mono fun b hb => Nat.lt_of_lt_of_le hb s0⟩
  have HOF := Lib.hid (for_any recP (by unfold recP; simp) (some ⟨w.heap.size + 2, 0, none⟩) 2 [id32 a, d] (by simp) (by rw [forBytes_two, id32_length, hn]; unfold recP; simp; omega) W (HT.out.below b0) hrp)
  have HR0 := Lib.hid r0
  have HB := Lib.hid b0
  clear r0 c0 c1 b0 hrp
  refine HOF.out.mono ?_
  rintro e w3 ⟨rfl, hb3⟩
  have hR3 := HR0.out.below hb3 HR0.out.lt
  dsimp only
  go_wp2_with (refine wpList_store_row rfl 37 _ _ rfl (w.heap.size + 1) (arr 32 fun i => bv (withD a d i)) rfl rfl 37 _ hR3 (by rw [arr_size]; kernel_rfl) (by rw [arr_size, arr_size]) (arr_all_bv _ _) ?_)
  refine bodyPost_ret (v := .agg (arr 32 fun i => bv (withD a d i))) (results_cell_row (p := 4) (ty := 37) rfl _ _ (w.heap.size + 1) 37 _ (0, 0) _ rfl (hR3.setRow _) Tryd.underlying37 rfl (by rw [arr_size]; kernel_rfl)) rfl ⟨rfl, below_setRow (HB.out.trans (hb3.mono s0)) (by omega) _⟩
set_option maxRecDepth 100000 in
set_option maxHeartbeats 1000000 in
theorem front_any (a : Nat → UInt8) (n : Nat) (hn : n < 16777216) (w : World) (hT : Tables w) :
    Calls Tryd.prog 43 #[.agg (arr 32 fun i => bv (a i)), .int .i64 (n : Int)] w fun e w' => ∃ A' c', e = .returned (.slice A' 19 c') ∧ RdB w' (fun b => w.heap.size ≤ b ∧ b < w'.heap.size) (.slice A' 19 c') (frontB a n) ∧ w'.ownsRow w.heap.size 5 1 (.slice A' 19 c') 19 ((frontB a n).map bv) ∧ Below w.heap.size w w' := by
  have HT := Lib.hid hT
  clear hT
  have hn0 : (0 : Int) ≤ (n : Int) := by omega
  have hn1 : (n : Int) < 16777216 := by omega
  obtain ⟨al, hal⟩ : ∃ al, (arr 32 fun i => bv (a i)) = al := ⟨_, rfl⟩
  rw [hal]
  have HAL := Lib.hid hal
  clear hal
  go_enter Tryd.func43, Tryd.ntmps43
  go_upto_region 2 with fail
  go_wp2_with fail
  generalize hW : (World.alloc (World.alloc (World.alloc w _) _) _) = W
  have e1 : (n : Int) / 65536 = ((UInt8.ofNat (n / 65536)).toNat : Int) := by rw [UInt8.toNat_ofNat']; omega
  have e2 : (n : Int) / 256 % 256 = ((UInt8.ofNat (n / 256)).toNat : Int) := by rw [UInt8.toNat_ofNat']; omega
  have e3 : (n : Int) % 256 = ((UInt8.ofNat n).toNat : Int) := by rw [UInt8.toNat_ofNat']; omega
  have c0 : Blk W w.heap.size 37 (arr 32 fun i => bv (a i)) := by rw [← hW, HAL.out]; exact ((Blk.newAt _ _ rfl rfl).alloc _).alloc _
  have k1 : Blk W (w.heap.size + 1) 5 ((len3 n).map bv).toArray := by rw [← hW, e1, e2, e3]; exact (Blk.newAt _ _ (by simp) rfl).alloc _
  have c1 : Blk W (w.heap.size + 2) 42 #[.slice (some ⟨w.heap.size, 0, none⟩) 32 32, .slice (some ⟨w.heap.size + 1, 0, none⟩) 3 3] := by rw [← hW]; exact Blk.newAt _ _ (by simp) rfl
  have b0 : Below w.heap.size w W := by rw [← hW]; exact (((Below.refl _ _).alloc (Nat.le_refl _) _).alloc (by simp) _).alloc (by simp; omega) _
  have s0 := b0.size
  clear hW e1 e2 e3
  have hl3 : (len3 n).length = 3 := rfl
  have hr3 : ∀ (W' : World) (ok : Nat → Prop), Blk W' (w.heap.size + 1) 5 ((len3 n).map bv).toArray → ok (w.heap.size + 1) → RdB W' ok (.slice (some ⟨w.heap.size + 1, 0, none⟩) 3 3) (len3 n) := fun W' ok h h' => rdB_cells (fun i hi => by
    rw [h.cell, List.getElem?_toArray, List.getElem?_map, List.getElem?_eq_getElem (by rw [hl3]; exact hi), List.getD_eq_getElem?_getD, List.getElem?_eq_getElem (by rw [hl3]; exact hi)]
    rfl) hl3 (Nat.le_refl _) (by omega) h'
  have hrp : RdP W (fun b => b < W.heap.size) (some ⟨w.heap.size + 2, 0, none⟩) [id32 a, len3 n] := fun k hk => by
    have : k = 0 ∨ k = 1 := by simp at hk; omega
    rcases this with rfl | rfl
    · exact ⟨_, _, rfl, c1.lt, by rw [add_zero_block, c1.cell]; rfl, rdB_id c0 c0.lt⟩
    · exact ⟨_, _, rfl, c1.lt, by rw [add_zero_block, c1.cell]; rfl, hr3 W _ k1 k1.lt⟩
  have HOF := Lib.hid (for_any frontP (by unfold frontP; simp) (some ⟨w.heap.size + 2, 0, none⟩) 2 [id32 a, len3 n] (by simp) (by rw [forBytes_two, id32_length, hl3]; unfold frontP; simp) W (HT.out.below b0) hrp)
  have HK1 := Lib.hid k1
  have HB := Lib.hid b0
  clear c0 k1 c1 b0 hrp
  refine HOF.out.mono ?_
  rintro e w3 ⟨rfl, hb3⟩
  have HK3 := Lib.hid (HK1.out.below hb3 HK1.out.lt)
  have HB3 := Lib.hid (HB.out.trans (hb3.mono s0))
  obtain ⟨f, hf⟩ : ∃ f, sha (forBytes frontP [id32 a, len3 n]) = f := ⟨_, rfl⟩
  unfold shaV
  rw [hf]
  have HF := Lib.hid hf
  clear hb3 hf HOF
  dsimp only
  have hsl : ∀ w', (Instr.sliceAt 37 (.pointer (some ⟨w3.heap.size, 0, none⟩)) none (some (.int .i64 16)) none).run Tryd.prog w' = .ok (.slice (some ⟨w3.heap.size, 0, none⟩) 16 32) w' := fun w' => by kernel_rfl
  obtain ⟨w4, hw4⟩ : ∃ w4, w3.alloc (.cells (arr 32 fun i => bv (f i)) 37) = w4 := ⟨_, rfl⟩
  have hb4 : Below w3.heap.size w3 w4 := by rw [← hw4]; exact (Below.refl _ _).alloc (Nat.le_refl _) _
  have k4 : Blk w4 w3.heap.size 37 (arr 32 fun i => bv (f i)) := by rw [← hw4]; exact Blk.newAt _ _ rfl rfl
  have own3 : w4.ownsRow w.heap.size 5 1 (.slice (some ⟨w.heap.size + 1, 0, none⟩) 3 3) 3 ((len3 n).map bv) := ⟨rfl, .inr ⟨w.heap.size + 1, 3, _, rfl, by omega, (HK3.out.below hb4 HK3.out.lt), Nat.le_refl _, by unfold maxLen; omega, rfl, by simp; exact List.take_of_length_le (by simp [hl3])⟩⟩
  have hr16 : RdB w4 (fun b => b < w4.heap.size) (.slice (some ⟨w3.heap.size, 0, none⟩) 16 32) ((id32 f).take 16) := (rdB_id (ok := fun b => b < w4.heap.size) k4 k4.lt).firsts (by omega)
  obtain ⟨i0, hi, hz0, hz1, hz2⟩ := info_parts info_u8
  obtain ⟨v5, w5, hrun, hown5, hgr, hat5⟩ := run_append_rd (P := Tryd.prog) w4 w.heap.size 42 42 5 i0 (.int .u8 0) Tryd.underlying42 hi hz0 hz1 hz2 rfl _ 3 _ own3 _ (some ⟨w3.heap.size, 0, none⟩) 16 32 _ hr16 (by omega) (Nat.le_trans HB3.out.size hb4.size)
  have hb5 : Below w.heap.size w w5 := (HB3.out.trans (hb4.mono HB3.out.size)).grown hgr (Nat.le_trans HB3.out.size hb4.size) fun k hk => by
    simp only [Value.ownBlock, Option.some.injEq] at hk
    omega
  rw [← List.map_append] at hown5
  have hfb : len3 n ++ (id32 f).take 16 = frontB a n := by unfold frontB; rw [HF.out]
  rw [hfb] at hown5
  have hrd := rdB_own hown5 (frontB_length a n) (by omega)
  obtain ⟨A', c', rfl⟩ : ∃ A' c', v5 = .slice A' 19 c' := by
    rcases ownsRow_forms' hown5 with ⟨rfl, h0⟩ | ⟨g, cap, rfl⟩
    · exact absurd h0 (by omega)
    · exact ⟨_, _, rfl⟩
  have HR := Lib.hid hrun
  have HW4 := Lib.hid hw4
  have HEND := Lib.hid (And.intro hrd (And.intro hown5 hb5))
  clear hrun hw4 hb4 k4 own3 hr16 hi hz0 hz1 hz2 hgr hb5 hrd hown5 hfb hat5 hr3
  go_wp2_with (first
    | (refine wpList_store_row rfl 37 _ _ rfl w3.heap.size (arr 32 fun i => bv (f i)) rfl rfl 37 _ (heap_alloc_new w3 _) (by rw [arr_size]; kernel_rfl) (by rw [arr_size]; rfl) (arr_all_bv _ _) ?_; rw [World.setRow_alloc_new, HW4.out])
    | (at_builtin; refine wpList_append_run rfl (.tmp 20) (.tmp 21) _ _ rfl _ _ rfl rfl _ _ HR.out ?_))
  go_ret
  exact ⟨A', c', rfl, HEND.out.1, HEND.out.2.1, HEND.out.2.2⟩
end Go.Proofs.YtkbdkeclbokhdaaDoor
