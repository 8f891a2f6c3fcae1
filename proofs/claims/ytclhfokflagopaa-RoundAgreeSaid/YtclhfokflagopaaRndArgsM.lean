/-
  What happens among several, in memory; rows of it. As arguments, opened. No condition.
-/
import Derived.Test.YtclhfokflagopaaRndArgs
import Derived.Test.YtclhfokflagopaaRndMove
namespace Go.Proofs.Ytclhfokflagopaa
open Go Go.RowKit Go.ChangeShapes Go.WideShapes Go.ChangeAt

theorem cellsMoveS : Try.prog.cellsOf 78 = 38 := by kernel_rfl
theorem bytesMoveS : Try.prog.bytesOf 78 = 80 := by kernel_rfl
section
variable {H : Type} {enc : TypeId × Value → H}
set_option maxRecDepth 100000 in
theorem open_movC {W : World} {fuel : Nat} {cs : List Value} {x : DataW H × List MemPlace} (hsz : cs.length = 38) (hf : DataW.trod enc Try.prog W 0 (fun _ => true) true fuel 78 cs = some x) :
    ∃ v : MoveS, MoveSOk v ∧ cs = movC v := by
  obtain ⟨xs, n, _, hx, _, hlen, hg⟩ := DataW.trod_struct Try.underlying78 hf
  have hxl : xs.length = 7 := hlen
  have get : ∀ j, j < 7 → ∃ y, xs[j]? = some y := fun j hj => ⟨_, List.getElem?_eq_getElem (by omega)⟩
  have one : ∀ (o : Nat) (x : Value), (cs.drop o).take 1 = [x] → cs[o]? = some x := fun o x hx => by
    have h3 := congrArg (fun l : List Value => l[0]?) hx
    simp only [List.getElem?_take, List.getElem?_drop, Nat.zero_lt_one, if_true, Nat.add_zero] at h3
    exact h3
  obtain ⟨y0, g0⟩ := get 0 (by omega)
  obtain ⟨y1, g1⟩ := get 1 (by omega)
  obtain ⟨y2, g2⟩ := get 2 (by omega)
  obtain ⟨y3, g3⟩ := get 3 (by omega)
  obtain ⟨y4, g4⟩ := get 4 (by omega)
  obtain ⟨y5, g5⟩ := get 5 (by omega)
  obtain ⟨y6, g6⟩ := get 6 (by omega)
  have f0 : DataW.trod enc Try.prog W 0 (fun _ => true) true n 3 ((cs.drop 0).take (Try.prog.cellsOf 3)) = some y0 := (hg 0 _ rfl).trans g0
  rw [cellsInt'] at f0
  have f1 : DataW.trod enc Try.prog W 0 (fun _ => true) true n 3 ((cs.drop 1).take (Try.prog.cellsOf 3)) = some y1 := (hg 1 _ rfl).trans g1
  rw [cellsInt'] at f1
  have f2 : DataW.trod enc Try.prog W 0 (fun _ => true) true n 3 ((cs.drop 2).take (Try.prog.cellsOf 3)) = some y2 := (hg 2 _ rfl).trans g2
  rw [cellsInt'] at f2
  have f3 : DataW.trod enc Try.prog W 0 (fun _ => true) true n 3 ((cs.drop 3).take (Try.prog.cellsOf 3)) = some y3 := (hg 3 _ rfl).trans g3
  rw [cellsInt'] at f3
  have f4 : DataW.trod enc Try.prog W 0 (fun _ => true) true n 3 ((cs.drop 4).take (Try.prog.cellsOf 3)) = some y4 := (hg 4 _ rfl).trans g4
  rw [cellsInt'] at f4
  have f5 : DataW.trod enc Try.prog W 0 (fun _ => true) true n 3 ((cs.drop 5).take (Try.prog.cellsOf 3)) = some y5 := (hg 5 _ rfl).trans g5
  rw [cellsInt'] at f5
  have f6 : DataW.trod enc Try.prog W 0 (fun _ => true) true n 24 ((cs.drop 6).take (Try.prog.cellsOf 24)) = some y6 := (hg 6 _ rfl).trans g6
  rw [cellsId] at f6
  obtain ⟨n0, e0, w0⟩ := open_i64' f0
  obtain ⟨n1, e1, w1⟩ := open_i64' f1
  obtain ⟨n2, e2, w2⟩ := open_i64' f2
  obtain ⟨n3, e3, w3⟩ := open_i64' f3
  obtain ⟨n4, e4, w4⟩ := open_i64' f4
  obtain ⟨n5, e5, w5⟩ := open_i64' f5
  obtain ⟨l, hl, _, hfy⟩ := open_idl f6
  have hok : MoveSOk ⟨n0, n1, n2, n3, n4, n5, l⟩ := ⟨hl, w0, w1, w2, w3, w4, w5⟩
  refine ⟨⟨n0, n1, n2, n3, n4, n5, l⟩, hok, List.ext_getElem? fun i => ?_⟩
  by_cases hi : i < 38
  · have c0 := one 0 _ e0
    have c1 := one 1 _ e1
    have c2 := one 2 _ e2
    have c3 := one 3 _ e3
    have c4 := one 4 _ e4
    have c5 := one 5 _ e5
    by_cases h3 : i < 6
    · have : i = 0 ∨ i = 1 ∨ i = 2 ∨ i = 3 ∨ i = 4 ∨ i = 5 := by omega
      rcases this with rfl | rfl | rfl | rfl | rfl | rfl
      · exact c0
      · exact c1
      · exact c2
      · exact c3
      · exact c4
      · exact c5
    · have := hfy (i - 6) (by omega)
      rw [List.getElem?_take, if_pos (by omega), List.getElem?_drop, show 6 + (i - 6) = i from by omega] at this
      rw [this]
      have h4 := movC_id hok (i := i - 6) (by omega)
      rw [show 6 + (i - 6) = i from by omega] at h4
      exact h4.symm
  · rw [List.getElem?_eq_none (by omega), List.getElem?_eq_none (by rw [movC_length hok]; omega)]
set_option maxRecDepth 100000 in
/-- []Vote. -/
theorem open_movs {W : World} {fuel : Nat} {cs : List Value} {d : DataW H} {p : List MemPlace} (hl : Light 74 d) (h : DataW.trod enc Try.prog W 0 (fun _ => true) true fuel 74 cs = some (d, p)) :
    ∃ (v : Value) (l : List MoveS), cs = [v] ∧ RdMv W W.heap.size v l := by
  rcases Go.Deep.open_slice Try.underlying74 h with ⟨rfl, hx⟩ | ⟨a, len, cap, m, n, D0, Pl, rfl, _, hle, hm, hmm, hx, hi⟩
  · exact ⟨_, [], rfl, by simp, none, 0, rfl, Nat.le_refl _, by simp, fun h => by simp at h⟩
  · simp only [Prod.mk.injEq] at hx
    obtain ⟨rfl, rfl⟩ := hx
    simp only [if_true] at hmm
    subst hmm
    have hs := light_len Try.underlying74 hl
    rw [bytesMoveS] at hs
    simp only [List.length_map, List.length_range] at hs
    have each : ∀ k, k < len → ∃ x : MoveS, MoveSOk x ∧ ∀ i, i < 38 → W.cell? (a.add (38 * k + i)) = (movC x)[i]? := fun k hk => by
      obtain ⟨cs', hc, ht⟩ := hi k (by omega)
      rw [cellsMoveS] at hc
      obtain ⟨_, hcl, hat⟩ := World.cells?_some hc
      obtain ⟨x, hok, hx⟩ := open_movC hcl ht
      refine ⟨x, hok, fun i hi' => ?_⟩
      have := hat i hi'
      rw [add_add', hx] at this
      rw [Nat.mul_comm]
      exact this
    have hlen : ((List.range len).map fun k => if hk : k < len then Classical.choose (each k hk) else ⟨0, 0, 0, 0, 0, 0, []⟩).length = len := by rw [List.length_map, List.length_range]
    refine ⟨_, (List.range len).map fun k => if hk : k < len then Classical.choose (each k hk) else ⟨0, 0, 0, 0, 0, 0, []⟩, rfl, fun x hx => ?_, some a, _, by rw [hlen], by rw [hlen]; exact hle, by rw [hlen]; omega, fun h0 => ⟨a, rfl, ?_, fun k x hk i hi' => ?_⟩⟩
    · obtain ⟨k, hk, rfl⟩ := List.mem_map.1 hx
      have hk' := List.mem_range.1 hk
      simp only [hk', dif_pos]
      exact (Classical.choose_spec (each k hk')).1
    · rw [hlen] at h0
      have h5 := Classical.choose_spec (each 0 h0)
      have h6 := h5.2 0 (by omega)
      rw [List.getElem?_eq_getElem (by rw [movC_length h5.1]; omega)] at h6
      have := block_lt_of_cell h6
      rwa [block_add] at this
    · have hkl := (List.getElem?_eq_some_iff.1 hk).1
      rw [hlen] at hkl
      rw [List.getElem?_map, List.getElem?_range hkl] at hk
      simp only [Option.map_some, hkl, dif_pos, Option.some.injEq] at hk
      rw [← hk]
      exact (Classical.choose_spec (each k hkl)).2 i hi'
end
end Go.Proofs.Ytclhfokflagopaa
