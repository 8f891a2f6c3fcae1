/-
  [][]byte as an argument, with its capacity. No condition.
-/
import Derived.Test.YtggffadildfnlaaDoorTreeArgs
namespace Go.Proofs.YtggffadildfnlaaDoor
open Go Go.RowKit Go.ChangeShapes Go.WideShapes Go.ChangeAt TreeM

section
variable {H : Type} {enc : TypeId × Value → H}
set_option maxRecDepth 100000 in
/-- [][]byte. -/
theorem open_rowsC {W : World} {fuel : Nat} {cs : List Value} {d : DataW H} {p : List MemPlace} (hl : Light 39 d) (h : DataW.trod enc Tryd.prog W 0 (fun _ => true) true fuel 39 cs = some (d, p)) :
    ∃ (A : Option Addr) (c : Nat) (ps : List (List UInt8)), cs = [.slice A ps.length c] ∧ ps.length ≤ c ∧ RdP W (fun b => b < W.heap.size) A ps := by
  rcases Go.Deep.open_slice Tryd.underlying39 h with ⟨rfl, hx⟩ | ⟨a, len, cap, m, n, D, Pl, rfl, _, hle, hm, hmm, hx, hi⟩
  · exact ⟨none, 0, [], rfl, by simp, fun k hk => by simp at hk⟩
  · simp only [Prod.mk.injEq] at hx
    obtain ⟨rfl, rfl⟩ := hx
    simp only [if_true] at hmm
    subst hmm
    have hs := light_len Tryd.underlying39 hl
    rw [bytesS] at hs
    simp only [List.length_map, List.length_range] at hs
    have each : ∀ k, k < len → ∃ (A : Option Addr) (c : Nat) (L : List UInt8), W.cell? (a.add k) = some (.slice A L.length c) ∧ RdB W (fun b => b < W.heap.size) (.slice A L.length c) L := fun k hk => by
      obtain ⟨cs', hc, ht⟩ := hi k (by omega)
      rw [cellsS] at hc
      obtain ⟨A, c, L, rfl, hr⟩ := open_bytes (light_elem Tryd.underlying39 hl (List.mem_map.2 ⟨k, List.mem_range.2 hk, rfl⟩)) ht
      obtain ⟨_, _, hat⟩ := World.cells?_some hc
      have := hat 0 (by omega)
      rw [Nat.mul_one, add_add', Nat.add_zero] at this
      exact ⟨A, c, L, this, hr⟩
    refine ⟨some a, _, (List.range len).map fun k => if hk : k < len then Classical.choose (Classical.choose_spec (Classical.choose_spec (each k hk))) else [], by rw [List.length_map, List.length_range], by simp; omega, fun k hk => ?_⟩
    have hk' : k < len := by simpa using hk
    have hsp := Classical.choose_spec (Classical.choose_spec (Classical.choose_spec (each k hk')))
    refine ⟨a, _, rfl, ?_, hsp.1, ?_⟩
    · have := block_lt_of_cell hsp.1
      rwa [block_add] at this
    · have e : ((List.range len).map fun k => if hk : k < len then Classical.choose (Classical.choose_spec (Classical.choose_spec (each k hk))) else []).getD k [] = Classical.choose (Classical.choose_spec (Classical.choose_spec (each k hk'))) := by
        rw [List.getD_eq_getElem?_getD, List.getElem?_map, List.getElem?_range hk']
        simp [hk']
      rw [e]
      exact hsp.2
end
set_option maxRecDepth 100000 in
theorem okWide_id {W : World} {r : Reach} {b0 : Nat} {v : Value} (h : Value.okWide Tryd.prog W r b0 23 v) : ∃ xs : Array Value, v = .agg xs := by
  simp only [Value.okWide, Tryd.underlying23] at h
  obtain ⟨cs, h1, _⟩ := h
  exact ⟨cs, h1⟩
set_option maxRecDepth 100000 in
theorem id_arr {xs : Array Value} {f : Nat → UInt8} (hn : (Value.agg xs).cells.toList.length = 32) (hg : ∀ i, i < 32 → (Value.agg xs).cells.toList[i]? = some (bv (f i))) : xs = arr 32 fun i => bv (f i) := by
  have e : (Value.agg xs).cells = xs := rfl
  rw [e] at hn hg
  refine arr_of _ _ _ (by simpa using hn) (fun i hi => ?_)
  have := hg i hi
  rwa [Array.getElem?_toList] at this
end Go.Proofs.YtggffadildfnlaaDoor
