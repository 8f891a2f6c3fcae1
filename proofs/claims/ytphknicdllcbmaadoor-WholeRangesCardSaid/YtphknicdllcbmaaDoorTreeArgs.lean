/-
  Arguments of trees and proofs, opened: slices of IDs, IDs, slices of slices of bytes. No condition.
-/
import Derived.Test.YtphknicdllcbmaaDoorLaidT
import Derived.Test.YtphknicdllcbmaaDoorTreeFn
import Derived.Test.YtphknicdllcbmaaDoorCards
import Derived.Test.YtphknicdllcbmaaDoorTie
namespace Go.Proofs.YtphknicdllcbmaaDoor
open Go Go.RowKit Go.ChangeShapes Go.WideShapes Go.ChangeAt TreeM

theorem cellsS : Tryd.prog.cellsOf 47 = 1 := by kernel_rfl
theorem bytesS : Tryd.prog.bytesOf 47 = 24 := by kernel_rfl
theorem add_add' (a : Addr) (i j : Nat) : (a.add i).add j = a.add (i + j) := add_add a i j
section
variable {H : Type} {enc : TypeId × Value → H}
set_option maxRecDepth 100000 in
/-- [][]byte. -/
theorem open_rows {W : World} {fuel : Nat} {cs : List Value} {d : DataW H} {p : List MemPlace} (hl : Light 45 d) (h : DataW.trod enc Tryd.prog W 0 (fun _ => true) true fuel 45 cs = some (d, p)) :
    ∃ (A : Option Addr) (c : Nat) (ps : List (List UInt8)), cs = [.slice A ps.length c] ∧ ps.length ≤ 140737488351232 ∧ RdP W (fun b => b < W.heap.size) A ps := by
  rcases Go.Deep.open_slice Tryd.underlying45 h with ⟨rfl, hx⟩ | ⟨a, len, cap, m, n, D, Pl, rfl, _, hle, hm, hmm, hx, hi⟩
  · exact ⟨none, 0, [], rfl, by simp, fun k hk => by simp at hk⟩
  · simp only [Prod.mk.injEq] at hx
    obtain ⟨rfl, rfl⟩ := hx
    simp only [if_true] at hmm
    subst hmm
    have hs := light_len Tryd.underlying45 hl
    rw [bytesS] at hs
    simp only [List.length_map, List.length_range] at hs
    have each : ∀ k, k < len → ∃ (A : Option Addr) (c : Nat) (L : List UInt8), W.cell? (a.add k) = some (.slice A L.length c) ∧ RdB W (fun b => b < W.heap.size) (.slice A L.length c) L := fun k hk => by
      obtain ⟨cs', hc, ht⟩ := hi k (by omega)
      rw [cellsS] at hc
      obtain ⟨A, c, L, rfl, hr⟩ := open_bytes (light_elem Tryd.underlying45 hl (List.mem_map.2 ⟨k, List.mem_range.2 hk, rfl⟩)) ht
      obtain ⟨_, _, hat⟩ := World.cells?_some hc
      have := hat 0 (by omega)
      rw [Nat.mul_one, add_add', Nat.add_zero] at this
      exact ⟨A, c, L, this, hr⟩
    refine ⟨some a, _, (List.range len).map fun k => if hk : k < len then Classical.choose (Classical.choose_spec (Classical.choose_spec (each k hk))) else [], by rw [List.length_map, List.length_range], by simp; omega, fun k hk => ?_⟩
    have hk' : k < len := by simpa using hk
    have hsp := Classical.choose_spec (Classical.choose_spec (Classical.choose_spec (each k hk')))
    refine ⟨a, _, rfl, ?_, hsp.1, ?_⟩
    · have := block_lt_of_cell hsp.1
      rwa [block_add] at this
    · have e : ((List.range len).map fun k => if hk : k < len then Classical.choose (Classical.choose_spec (Classical.choose_spec (each k hk))) else []).getD k [] = Classical.choose (Classical.choose_spec (Classical.choose_spec (each k hk'))) := by
        rw [List.getD_eq_getElem?_getD, List.getElem?_map, List.getElem?_range hk']
        simp [hk']
      rw [e]
      exact hsp.2
end
end Go.Proofs.YtphknicdllcbmaaDoor
