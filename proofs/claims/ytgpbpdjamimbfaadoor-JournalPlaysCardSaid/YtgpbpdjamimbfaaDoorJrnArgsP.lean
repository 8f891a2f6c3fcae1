/-
  An argument that is a slice of steps, opened. No condition of its own.
-/
import Derived.Test.YtgpbpdjamimbfaaDoorArgsJ
import Derived.Test.YtgpbpdjamimbfaaDoorQPly
namespace Go.Proofs.YtgpbpdjamimbfaaDoor
open Go Go.RowKit Go.ChangeShapes Go.WideShapes Go.ChangeAt

theorem cellsOp : Tryd.prog.cellsOf 44 = 4 := by kernel_rfl
theorem cellsInt : Tryd.prog.cellsOf 3 = 1 := by kernel_rfl
section
variable {H : Type} {enc : TypeId × Value → H}
set_option maxRecDepth 100000 in
theorem open_ops {W : World} {fuel : Nat} {cs : List Value} {d : DataW H} {p : List MemPlace} (hl : Light 22 d) (h : DataW.trod enc Tryd.prog W 0 (fun _ => true) true fuel 22 cs = some (d, p)) :
    ∃ (A : Option Addr) (c : Nat) (ops : List OpR), cs = [.slice A ops.length c] ∧ RdOps W (fun b => b < W.heap.size) A ops := by
  rcases Go.Deep.open_slice Tryd.underlying22 h with ⟨rfl, hx⟩ | ⟨a, len, cap, m, n, D, Pl, rfl, _, hle, hm, hmm, hx, hi⟩
  · exact ⟨none, 0, [], rfl, fun k hk => by simp at hk⟩
  · simp only [Prod.mk.injEq] at hx
    obtain ⟨rfl, rfl⟩ := hx
    simp only [if_true] at hmm
    subst hmm
    have each : ∀ k, k < len → ∃ (o : OpR) (Ad : Option Addr) (cd : Nat), W.cell? (a.add (4 * k)) = some (.int .i64 o.kind) ∧ W.cell? (a.add (4 * k + 1)) = some (.int .i64 o.n) ∧ W.cell? (a.add (4 * k + 2)) = some (.int .u8 (o.x.toNat : Int)) ∧
        W.cell? (a.add (4 * k + 3)) = some (.slice Ad o.data.length cd) ∧ RdB W (fun b => b < W.heap.size) (.slice Ad o.data.length cd) o.data ∧ -9223372036854775808 ≤ o.n ∧ o.n ≤ 9223372036854775807 := fun k hk => by
      obtain ⟨cs', hc, ht⟩ := hi k (by omega)
      rw [cellsOp] at hc
      have hlk := light_elem Tryd.underlying22 hl (List.mem_map.2 ⟨k, List.mem_range.2 hk, rfl⟩)
      obtain ⟨ys, n', hn', hy, hlen, hyl, hf⟩ := DataW.trod_struct Tryd.underlying44 ht
      obtain ⟨_, hcl, hat⟩ := World.cells?_some hc
      simp only [Prod.mk.injEq] at hy
      obtain ⟨hy1, hy2⟩ := hy
      rw [hy1] at hlk
      have hyl4 : ys.length = 4 := hyl
      have get : ∀ j, j < 4 → ∃ y, ys[j]? = some y ∧ (ys.map (·.1))[j]? = some y.1 := fun j hj => ⟨_, List.getElem?_eq_getElem (by omega), by rw [List.getElem?_map, List.getElem?_eq_getElem (by omega)]; rfl⟩
      have one : ∀ (o : Nat) (x : Value), (cs'.drop o).take 1 = [x] → cs'[o]? = some x := fun o x hx => by
        have h3 := congrArg (fun l : List Value => l[0]?) hx
        simp only [List.getElem?_take, List.getElem?_drop, Nat.zero_lt_one, if_true, Nat.add_zero] at h3
        exact h3
      have at4 : ∀ j x, j < 4 → cs'[j]? = some x → W.cell? (a.add (4 * k + j)) = some x := fun j x hj hx => by
        have := hat j hj
        rw [add_add, Nat.mul_comm] at this
        rw [this, hx]
      obtain ⟨y0, g0, k0⟩ := get 0 (by omega)
      obtain ⟨y1, g1, k1⟩ := get 1 (by omega)
      obtain ⟨y2, g2, k2⟩ := get 2 (by omega)
      obtain ⟨y3, g3, k3⟩ := get 3 (by omega)
      have f0 : DataW.trod enc Tryd.prog W 0 (fun _ => true) true n' 3 ((cs'.drop 0).take (Tryd.prog.cellsOf 3)) = some y0 := (hf 0 _ rfl).trans g0
      have f1 : DataW.trod enc Tryd.prog W 0 (fun _ => true) true n' 3 ((cs'.drop 1).take (Tryd.prog.cellsOf 3)) = some y1 := (hf 1 _ rfl).trans g1
      have f2 : DataW.trod enc Tryd.prog W 0 (fun _ => true) true n' 5 ((cs'.drop 2).take (Tryd.prog.cellsOf 5)) = some y2 := (hf 2 _ rfl).trans g2
      have f3 : DataW.trod enc Tryd.prog W 0 (fun _ => true) true n' 42 ((cs'.drop 3).take (Tryd.prog.cellsOf 42)) = some y3 := (hf 3 _ rfl).trans g3
      rw [cellsInt] at f0 f1
      rw [cells8] at f2
      rw [cellsS] at f3
      obtain ⟨z0, e0, _, _⟩ := DataW.trod_int Tryd.underlying3 f0
      obtain ⟨z1, e1, _, w1⟩ := DataW.trod_int Tryd.underlying3 f1
      obtain ⟨z2, e2, _, w2⟩ := DataW.trod_int Tryd.underlying5 f2
      have hl3 : Light 42 y3.1 := light_field (j := 3) Tryd.underlying44 hlk rfl k3
      obtain ⟨A3, c3, L3, e3, hr3⟩ := open_bytes hl3 f3
      have hz1 : -9223372036854775808 ≤ z1 ∧ z1 ≤ 9223372036854775807 := by
        have h' : (decide (-9223372036854775808 ≤ z1) && decide (z1 ≤ 9223372036854775807)) = true := w1
        simpa using h'
      refine ⟨⟨z0, z1, UInt8.ofNat z2.toNat, L3⟩, A3, c3, at4 0 _ (by omega) (one 0 _ e0), at4 1 _ (by omega) (one 1 _ e1), ?_, at4 3 _ (by omega) (one 3 _ e3), hr3, hz1⟩
      have := at4 2 _ (by omega) (one 2 _ e2)
      rw [← u8_of_wf' w2] at this
      exact this
    refine ⟨some a, _, (List.range len).map fun k => if hk : k < len then Classical.choose (each k hk) else ⟨0, 0, 0, []⟩, by rw [List.length_map, List.length_range], fun k hk => ?_⟩
    have hk' : k < len := by simpa using hk
    obtain ⟨Ad, cd, hsp⟩ := Classical.choose_spec (each k hk')
    refine ⟨a, _, Ad, cd, rfl, ?_, ?_, hsp⟩
    · have := block_lt_of_cell hsp.1
      rwa [block_add] at this
    · rw [List.getElem?_map, List.getElem?_range hk']
      simp [hk']
end
end Go.Proofs.YtgpbpdjamimbfaaDoor
