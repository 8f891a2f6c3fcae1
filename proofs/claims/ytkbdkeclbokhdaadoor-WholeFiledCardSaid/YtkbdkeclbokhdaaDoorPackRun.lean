/-
  pack.appendRun: for every run shorter than 2^24, behind whatever row of the call's own.
-/
import Derived.Test.YtkbdkeclbokhdaaDoorRd
import Derived.Test.YtkbdkeclbokhdaaDoorPackKit
import Derived.Deep.DeepMust
namespace Go.Proofs.YtkbdkeclbokhdaaDoor
open Go Go.RowKit PackMath

set_option maxRecDepth 100000 in
set_option maxHeartbeats 1000000 in
theorem appendRun_any {B : Nat} {w : World} (hB : B ≤ w.heap.size) {n : Nat} {v : Value} {to : List UInt8} (hown : w.ownsRow B 5 1 v n (to.map bv)) (hn2 : n ≤ 1099511627776)
    {ok : Nat → Prop} (hok : ∀ b, ok b → b < B) {A : Option Addr} {m c : Nat} {bs : List UInt8} (hr : RdB w ok (.slice A m c) bs) (hm : bs.length = m) (hm2 : m < 16777216) :
    Calls Tryd.prog 51 #[v, .slice A m c] w fun e w' => ∃ g' cap', e = .returned (.slice (some ⟨g', 0, none⟩) (n + 3 + m) cap') ∧
      w'.ownsRow B 5 1 (.slice (some ⟨g', 0, none⟩) (n + 3 + m) cap') (n + 3 + m) ((to ++ run bs).map bv) ∧ Below B w w' := by
  have b0 : Blk (w.alloc (.cells #[bv (UInt8.ofNat (m / 65536)), bv (UInt8.ofNat (m / 256)), bv (UInt8.ofNat m)] 5)) w.heap.size 5 #[bv (UInt8.ofNat (m / 65536)), bv (UInt8.ofNat (m / 256)), bv (UInt8.ofNat m)] := Blk.new _ _ _
  have r0 : RdB (w.alloc (.cells #[bv (UInt8.ofNat (m / 65536)), bv (UInt8.ofNat (m / 256)), bv (UInt8.ofNat m)] 5)) (fun b => b = w.heap.size) (.slice (some ⟨w.heap.size, 0, none⟩) 3 3) (len3P m) := rdB_cells (n := 3) (fun i hi => by
    rw [b0.cell]
    have : i = 0 ∨ i = 1 ∨ i = 2 := by omega
    rcases this with rfl | rfl | rfl <;> rfl) rfl (by omega) (by omega) rfl
  obtain ⟨g1, cap1, w1, run1, own1, hb1, hs1⟩ := app_step (((Below.refl B w).alloc hB (.cells #[bv (UInt8.ofNat (m / 65536)), bv (UInt8.ofNat (m / 256)), bv (UInt8.ofNat m)] 5))) (by simp; omega) (hown.alloc _) r0 (by omega) (by omega)
  obtain ⟨g2, cap2, w2, run2, own2, hb2, hs2⟩ := app_step hb1 hs1 own1 (hr.kept fun a x ha h => (hb1.cell (p := a) (hok _ ha)).trans h) (by omega) (by omega)
  have e1 : IntKind.u8.wrap ((m : Int) / 65536) = ((UInt8.ofNat (m / 65536)).toNat : Int) := by rw [IntKind.wrap_u8']; simp
  have e2 : IntKind.u8.wrap ((m : Int) / 256) = ((UInt8.ofNat (m / 256)).toNat : Int) := by rw [IntKind.wrap_u8']; simp
  have e3 : IntKind.u8.wrap (m : Int) = ((UInt8.ofNat m).toNat : Int) := by rw [IntKind.wrap_u8']; simp
  have hfin : to ++ run bs = to ++ len3P m ++ bs := by rw [run, hm, List.append_assoc]
  rw [hfin]
  have O2 := Lib.hid own2
  have B2 := Lib.hid hb2
  have u1 : bv (UInt8.ofNat (m / 65536)) = .int .u8 ((m : Int) / 65536) := by unfold bv; rw [UInt8.toNat_ofNat']; congr 1; omega
  have u2 : bv (UInt8.ofNat (m / 256)) = .int .u8 ((m : Int) / 256 % 256) := by unfold bv; rw [UInt8.toNat_ofNat']; congr 1
  have u3 : bv (UInt8.ofNat m) = .int .u8 ((m : Int) % 256) := by unfold bv; rw [UInt8.toNat_ofNat']; congr 1
  rw [u1, u2, u3] at run1
  have R1 := Lib.hid run1
  have R2 := Lib.hid run2
  clear b0 r0 own1 hb1 hs1 own2 hb2 hs2 hr hown hfin run1 run2 u1 u2 u3 e1 e2 e3
  go_enter Tryd.func51, Tryd.ntmps51
  go_wp2_with (first
    | (at_builtin; refine wpList_append_run rfl (.tmp 8) (.tmp 17) _ _ rfl _ _ rfl rfl _ _ R1.out ?_)
    | (at_builtin; go_must (refine wpList_append_run rfl (.tmp 19) (.tmp 20) _ _ rfl _ _ rfl rfl _ _ R2.out ?_)))
  go_ret
  exact ⟨g2, cap2, rfl, O2.out, B2.out⟩
end Go.Proofs.YtkbdkeclbokhdaaDoor
