/-
  Audit: arguments opened: slices of slices of slices of bytes. No condition.
-/
import Derived.Test.YtalacjmcllfdhaaAudKit
import Derived.Test.YtalacjmcllfdhaaArgsB
namespace Go.Proofs.Ytalacjmcllfdhaa
open Go Go.RowKit Go.ChangeShapes Go.WideShapes Go.ChangeAt

theorem cellsS : Try.prog.cellsOf 43 = 1 := by kernel_rfl
theorem bytesS : Try.prog.bytesOf 43 = 24 := by kernel_rfl
theorem add_add' (a : Addr) (i j : Nat) : (a.add i).add j = a.add (i + j) := add_add a i j
section
variable {H : Type} {enc : TypeId × Value → H}
set_option maxRecDepth 100000 in
/-- [][]byte. -/
theorem open_rows {W : World} {fuel : Nat} {cs : List Value} {d : DataW H} {p : List MemPlace} (hl : Light 33 d) (h : DataW.trod enc Try.prog W 0 (fun _ => true) true fuel 33 cs = some (d, p)) :
    ∃ (A : Option Addr) (c : Nat) (ps : List (List UInt8)), cs = [.slice A ps.length c] ∧ ps.length ≤ 140737488351232 ∧ RdP W (fun b => b < W.heap.size) A ps := by
  rcases Go.Deep.open_slice Try.underlying33 h with ⟨rfl, hx⟩ | ⟨a, len, cap, m, n, D, Pl, rfl, _, hle, hm, hmm, hx, hi⟩
  · exact ⟨none, 0, [], rfl, by simp, fun k hk => by simp at hk⟩
  · simp only [Prod.mk.injEq] at hx
    obtain ⟨rfl, rfl⟩ := hx
    simp only [if_true] at hmm
    subst hmm
    have hs := light_len Try.underlying33 hl
    rw [bytesS] at hs
    simp only [List.length_map, List.length_range] at hs
    have each : ∀ k, k < len → ∃ (A : Option Addr) (c : Nat) (L : List UInt8), W.cell? (a.add k) = some (.slice A L.length c) ∧ RdB W (fun b => b < W.heap.size) (.slice A L.length c) L := fun k hk => by
      obtain ⟨cs', hc, ht⟩ := hi k (by omega)
      rw [cellsS] at hc
      obtain ⟨A, c, L, rfl, hr⟩ := open_bytes (light_elem Try.underlying33 hl (List.mem_map.2 ⟨k, List.mem_range.2 hk, rfl⟩)) ht
      obtain ⟨_, _, hat⟩ := World.cells?_some hc
      have := hat 0 (by omega)
      rw [Nat.mul_one, add_add', Nat.add_zero] at this
      exact ⟨A, c, L, this, hr⟩
    refine ⟨some a, _, (List.range len).map fun k => if hk : k < len then Classical.choose (Classical.choose_spec (Classical.choose_spec (each k hk))) else [], by rw [List.length_map, List.length_range], by simp; omega, fun k hk => ?_⟩
    have hk' : k < len := by simpa using hk
    have hsp := Classical.choose_spec (Classical.choose_spec (Classical.choose_spec (each k hk')))
    refine ⟨a, _, rfl, ?_, hsp.1, ?_⟩
    · have := block_lt_of_cell hsp.1
      rwa [block_add] at this
    · have e : ((List.range len).map fun k => if hk : k < len then Classical.choose (Classical.choose_spec (Classical.choose_spec (each k hk))) else []).getD k [] = Classical.choose (Classical.choose_spec (Classical.choose_spec (each k hk'))) := by
        rw [List.getD_eq_getElem?_getD, List.getElem?_map, List.getElem?_range hk']
        simp [hk']
      rw [e]
      exact hsp.2
theorem cellsSS : Try.prog.cellsOf 33 = 1 := by kernel_rfl
theorem bytesSS : Try.prog.bytesOf 33 = 24 := by kernel_rfl
set_option maxRecDepth 100000 in
/-- [][][]byte. -/
theorem open_lists {W : World} {fuel : Nat} {cs : List Value} {d : DataW H} {p : List MemPlace} (hl : Light 22 d) (h : DataW.trod enc Try.prog W 0 (fun _ => true) true fuel 22 cs = some (d, p)) :
    ∃ (A : Option Addr) (c : Nat) (L : List (List (List UInt8))), cs = [.slice A L.length c] ∧ L.length ≤ 140737488351232 ∧ RdPP W (fun b => b < W.heap.size) A L := by
  rcases Go.Deep.open_slice Try.underlying22 h with ⟨rfl, hx⟩ | ⟨a, len, cap, m, n, D, Pl, rfl, _, hle, hm, hmm, hx, hi⟩
  · exact ⟨none, 0, [], rfl, by simp, fun k hk => by simp at hk⟩
  · simp only [Prod.mk.injEq] at hx
    obtain ⟨rfl, rfl⟩ := hx
    simp only [if_true] at hmm
    subst hmm
    have hs := light_len Try.underlying22 hl
    rw [bytesSS] at hs
    simp only [List.length_map, List.length_range] at hs
    have each : ∀ k, k < len → ∃ (l : List (List UInt8)) (A : Option Addr) (c : Nat), W.cell? (a.add k) = some (.slice A l.length c) ∧ l.length ≤ 140737488351232 ∧ RdP W (fun b => b < W.heap.size) A l := fun k hk => by
      obtain ⟨cs', hc, ht⟩ := hi k (by omega)
      rw [cellsSS] at hc
      obtain ⟨A, c, l, rfl, hm2, hr⟩ := open_rows (light_elem Try.underlying22 hl (List.mem_map.2 ⟨k, List.mem_range.2 hk, rfl⟩)) ht
      obtain ⟨_, _, hat⟩ := World.cells?_some hc
      have := hat 0 (by omega)
      rw [Nat.mul_one, add_add', Nat.add_zero] at this
      exact ⟨l, A, c, this, hm2, hr⟩
    refine ⟨some a, _, (List.range len).map fun k => if hk : k < len then Classical.choose (each k hk) else [], by rw [List.length_map, List.length_range], by simp; omega, fun k hk => ?_⟩
    have hk' : k < len := by simpa using hk
    obtain ⟨A', c', h1, h2, h3⟩ := Classical.choose_spec (each k hk')
    have e : ((List.range len).map fun k => if hk : k < len then Classical.choose (each k hk) else []).getD k [] = Classical.choose (each k hk') := by
      rw [List.getD_eq_getElem?_getD, List.getElem?_map, List.getElem?_range hk']
      simp [hk']
    rw [e]
    refine ⟨a, A', c', rfl, ?_, h1, h2, h3⟩
    have := block_lt_of_cell h1
    rwa [block_add] at this
end
end Go.Proofs.Ytalacjmcllfdhaa
