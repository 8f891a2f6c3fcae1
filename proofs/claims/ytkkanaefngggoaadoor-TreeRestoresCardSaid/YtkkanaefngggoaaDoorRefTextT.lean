/-
  The reference's Text, For, Leaf and Node: for whatever sums, texts and lists of texts, in whatever memory.
-/
import Derived.Test.YtkkanaefngggoaaDoorLeafT
import Derived.Test.YtkkanaefngggoaaDoorRefOfT
import Derived.Deep.RegionLaw
namespace Go.Proofs.YtkkanaefngggoaaDoor
open Go Go.RowKit Go.Shelf

/-- A slice of strings. -/
def RdS (W : World) (A : Option Addr) (qs : List (List UInt8)) : Prop :=
  ∀ k, k < qs.length → ∃ ad, A = some ad ∧ ad.block < W.heap.size ∧ W.cell? (ad.add k) = some (.string ⟨(qs.getD k []).toArray⟩)
theorem ba_len (l : List UInt8) : (⟨l.toArray⟩ : ByteArray).size = l.length := by simp [ByteArray.size]

set_option maxRecDepth 100000 in
set_option maxHeartbeats 1000000 in
theorem text_any (f : Nat → UInt8) (w : World) :
    Calls Tryd.prog 66 #[.agg (arr 32 fun i => bv (f i))] w fun e w' => e = .returned (.string ⟨(id32 f).toArray⟩) ∧ Below w.heap.size w w' := by
  obtain ⟨af, haf⟩ : ∃ af, (arr 32 fun i => bv (f i)) = af := ⟨_, rfl⟩
  rw [haf]
  have HAF := Lib.hid haf
  clear haf
  go_enter Tryd.func66, Tryd.ntmps66
  go_wp2
  have c0 : Blk (w.alloc (.cells af 30)) w.heap.size 30 (arr 32 fun i => bv (f i)) := by rw [HAF.out]; exact Blk.new _ _ _
  have b0 : Below w.heap.size w (w.alloc (.cells af 30)) := (Below.refl _ _).alloc (Nat.le_refl _) _
  generalize w.alloc (.cells af 30) = W0 at *
  go_loopw [3, 4] (fun s i wr => ∃ k : Nat, k ≤ 32 ∧ i = .int .i64 (k : Int) ∧ s = .string ⟨((id32 f).take k).toArray⟩ ∧ Blk wr w.heap.size 30 (arr 32 fun i => bv (f i)) ∧ Below w.heap.size w wr) (fun _ i _ => 32 - (intOf i).toNat)
  case atStart => exact ⟨0, by omega, rfl, rfl, c0, b0⟩
  case round =>
    clear c0 b0
    obtain ⟨k, hk, rfl, rfl, hB, hb⟩ := hrel
    by_cases hlt : k < 32
    · have c1 := hB.cell k
      rw [arr_get, if_pos hlt] at c1
      obtain ⟨y, hy⟩ : ∃ y, f k = y := ⟨_, rfl⟩
      rw [hy] at c1
      unfold bv at c1
      have hst : Hid ((id32 f).take (k + 1) = (id32 f).take k ++ [y]) := Lib.hid (by
        rw [List.take_succ_eq_append_getElem (by simp [id32]; exact hlt)]
        simp [id32, hy])
      have hln : ((id32 f).take k).length ≤ 32 := by rw [List.length_take]; simp [id32]; omega
      obtain ⟨s, hs⟩ : ∃ s, (id32 f).take k = s := ⟨_, rfl⟩
      rw [hs] at hst hln ⊢
      have hcv := fun W => str_rd (rdB_one W y)
      have hcat : (({ data := s.toArray } : ByteArray) ++ { data := [y].toArray }) = ⟨(s ++ [y]).toArray⟩ := ba_app _ _
      have hno : ¬ (9223372036854775807 < s.length + [y].length) := by simp; omega
      have HB := Lib.hid hB
      have HBB := Lib.hid hb
      have k1 : (k : Int) < 32 := by omega
      clear hB hb hs hy
      unfold bv at hcv
      go_wp2
      go_roundw
      case rel => exact ⟨k + 1, by omega, by go_num, by rw [hst.out], (HB.out.alloc _), HBB.out.alloc HBB.out.size _⟩
      case measure => simp [intOf]; omega
    · obtain rfl : k = 32 := by omega
      rw [show (id32 f).take 32 = id32 f from by rw [List.take_of_length_le (by simp [id32])]]
      have HBB := Lib.hid hb
      clear hB hb
      obtain ⟨s, hs⟩ : ∃ s, id32 f = s := ⟨_, rfl⟩
      rw [hs]
      have HS := Lib.hid hs
      clear hs
      go_wp2
      go_ret
      exact ⟨by rw [HS.out]; rfl, HBB.out⟩
end Go.Proofs.YtkkanaefngggoaaDoor
