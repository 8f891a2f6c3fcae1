/-
  An argument that is a slice of bools, opened. No condition of its own.
-/
import Derived.Test.YtphknicdllcbmaaDoorTreeArgs
namespace Go.Proofs.YtphknicdllcbmaaDoor
open Go Go.RowKit Go.ChangeShapes Go.WideShapes Go.ChangeAt

/-- A slice of bools that reads as ks. -/
def RdO (W : World) (ok : Nat → Prop) (A : Option Addr) (ks : List Bool) : Prop := ∀ j, j < ks.length → ∃ ad : Addr, A = some ad ∧ ok ad.block ∧ W.cell? (ad.add j) = some (.bool (ks.getD j false))
theorem cellsBool : Tryd.prog.cellsOf 4 = 1 := by kernel_rfl
theorem bytesBool : Tryd.prog.bytesOf 4 = 1 := by kernel_rfl
def boolOf : Value → Bool
  | .bool b => b
  | _ => false
section
variable {H : Type} {enc : TypeId × Value → H}
theorem open_bools {W : World} {fuel : Nat} {cs : List Value} {d : DataW H} {p : List MemPlace} (hl : Light 56 d) (h : DataW.trod enc Tryd.prog W 0 (fun _ => true) true fuel 56 cs = some (d, p)) :
    ∃ (A : Option Addr) (c : Nat) (ks : List Bool), cs = [.slice A ks.length c] ∧ ks.length ≤ 140737488351232 ∧ RdO W (fun b => b < W.heap.size) A ks := by
  rcases Go.Deep.open_slice1 Tryd.underlying56 cellsBool h with ⟨rfl, hx⟩ | ⟨a, len, cap, m, n, V, D, Pl, rfl, _, hle, hm, hmm, hx, hi⟩
  · exact ⟨none, 0, [], rfl, by simp, fun k hk => by simp at hk⟩
  · simp only [Prod.mk.injEq] at hx
    obtain ⟨rfl, rfl⟩ := hx
    simp only [if_true] at hmm
    subst hmm
    have hs := light_len Tryd.underlying56 hl
    rw [bytesBool] at hs
    simp only [List.length_map, List.length_range] at hs
    refine ⟨some a, _, (List.range len).map fun k => boolOf (V k), by rw [List.length_map, List.length_range], by simp; omega, fun k hk => ?_⟩
    have hk' : k < len := by simpa using hk
    obtain ⟨hc, ht⟩ := hi k (by omega)
    obtain ⟨b, hb, _⟩ := DataW.trod_bool Tryd.underlying4 ht
    injection hb with hb _
    refine ⟨a, rfl, ?_, ?_⟩
    · have := block_lt_of_cell hc
      rwa [block_add] at this
    · rw [hc, hb, List.getD_eq_getElem?_getD, List.getElem?_map, List.getElem?_range hk']
      simp only [Option.map_some, Option.getD_some, hb]
      rfl
end
end Go.Proofs.YtphknicdllcbmaaDoor
