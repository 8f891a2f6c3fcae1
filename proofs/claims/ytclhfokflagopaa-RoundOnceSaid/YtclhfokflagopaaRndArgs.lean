/-
  What comes to somebody, in memory; rows of it. As arguments, opened. No condition.
-/
import Derived.Test.YtclhfokflagopaaQBits
import Derived.Test.YtclhfokflagopaaRndIn
namespace Go.Proofs.Ytclhfokflagopaa
open Go Go.RowKit Go.ChangeShapes Go.WideShapes Go.ChangeAt

theorem cellsInt' : Try.prog.cellsOf 3 = 1 := by kernel_rfl
theorem cellsInS : Try.prog.cellsOf 67 = 37 := by kernel_rfl
theorem bytesInS : Try.prog.bytesOf 67 = 72 := by kernel_rfl
section
variable {H : Type} {enc : TypeId × Value → H}
theorem open_i64' {W : World} {fuel : Nat} {cs : List Value} {x : DataW H × List MemPlace} (h : DataW.trod enc Try.prog W 0 (fun _ => true) true fuel 3 cs = some x) : ∃ n : Int, cs = [.int .i64 n] ∧ (Lit.int .i64 n).wf = true := by
  obtain ⟨n, hn, _, hw⟩ := DataW.trod_int Try.underlying3 h
  exact ⟨n, hn, hw⟩
set_option maxRecDepth 100000 in
theorem open_innC {W : World} {fuel : Nat} {cs : List Value} {x : DataW H × List MemPlace} (hsz : cs.length = 37) (hf : DataW.trod enc Try.prog W 0 (fun _ => true) true fuel 67 cs = some x) :
    ∃ v : InS, InSOk v ∧ cs = innC v := by
  obtain ⟨xs, n, _, hx, _, hlen, hg⟩ := DataW.trod_struct Try.underlying67 hf
  have hxl : xs.length = 6 := hlen
  have get : ∀ j, j < 6 → ∃ y, xs[j]? = some y := fun j hj => ⟨_, List.getElem?_eq_getElem (by omega)⟩
  have one : ∀ (o : Nat) (x : Value), (cs.drop o).take 1 = [x] → cs[o]? = some x := fun o x hx => by
    have h3 := congrArg (fun l : List Value => l[0]?) hx
    simp only [List.getElem?_take, List.getElem?_drop, Nat.zero_lt_one, if_true, Nat.add_zero] at h3
    exact h3
  obtain ⟨y0, g0⟩ := get 0 (by omega)
  obtain ⟨y1, g1⟩ := get 1 (by omega)
  obtain ⟨y2, g2⟩ := get 2 (by omega)
  obtain ⟨y3, g3⟩ := get 3 (by omega)
  obtain ⟨y4, g4⟩ := get 4 (by omega)
  obtain ⟨y5, g5⟩ := get 5 (by omega)
  have f0 : DataW.trod enc Try.prog W 0 (fun _ => true) true n 3 ((cs.drop 0).take (Try.prog.cellsOf 3)) = some y0 := (hg 0 _ rfl).trans g0
  rw [cellsInt'] at f0
  have f1 : DataW.trod enc Try.prog W 0 (fun _ => true) true n 3 ((cs.drop 1).take (Try.prog.cellsOf 3)) = some y1 := (hg 1 _ rfl).trans g1
  rw [cellsInt'] at f1
  have f2 : DataW.trod enc Try.prog W 0 (fun _ => true) true n 3 ((cs.drop 2).take (Try.prog.cellsOf 3)) = some y2 := (hg 2 _ rfl).trans g2
  rw [cellsInt'] at f2
  have f3 : DataW.trod enc Try.prog W 0 (fun _ => true) true n 3 ((cs.drop 3).take (Try.prog.cellsOf 3)) = some y3 := (hg 3 _ rfl).trans g3
  rw [cellsInt'] at f3
  have f4 : DataW.trod enc Try.prog W 0 (fun _ => true) true n 3 ((cs.drop 4).take (Try.prog.cellsOf 3)) = some y4 := (hg 4 _ rfl).trans g4
  rw [cellsInt'] at f4
  have f5 : DataW.trod enc Try.prog W 0 (fun _ => true) true n 24 ((cs.drop 5).take (Try.prog.cellsOf 24)) = some y5 := (hg 5 _ rfl).trans g5
  rw [cellsId] at f5
  obtain ⟨n0, e0, w0⟩ := open_i64' f0
  obtain ⟨n1, e1, w1⟩ := open_i64' f1
  obtain ⟨n2, e2, w2⟩ := open_i64' f2
  obtain ⟨n3, e3, w3⟩ := open_i64' f3
  obtain ⟨n4, e4, w4⟩ := open_i64' f4
  obtain ⟨l, hl, _, hfy⟩ := open_idl f5
  have hok : InSOk ⟨n0, n1, n2, n3, n4, l⟩ := ⟨hl, w0, w1, w2, w3, w4⟩
  refine ⟨⟨n0, n1, n2, n3, n4, l⟩, hok, List.ext_getElem? fun i => ?_⟩
  by_cases hi : i < 37
  · have c0 := one 0 _ e0
    have c1 := one 1 _ e1
    have c2 := one 2 _ e2
    have c3 := one 3 _ e3
    have c4 := one 4 _ e4
    by_cases h3 : i < 5
    · have : i = 0 ∨ i = 1 ∨ i = 2 ∨ i = 3 ∨ i = 4 := by omega
      rcases this with rfl | rfl | rfl | rfl | rfl
      · exact c0
      · exact c1
      · exact c2
      · exact c3
      · exact c4
    · have := hfy (i - 5) (by omega)
      rw [List.getElem?_take, if_pos (by omega), List.getElem?_drop, show 5 + (i - 5) = i from by omega] at this
      rw [this]
      have h4 := innC_id hok (i := i - 5) (by omega)
      rw [show 5 + (i - 5) = i from by omega] at h4
      exact h4.symm
  · rw [List.getElem?_eq_none (by omega), List.getElem?_eq_none (by rw [innC_length hok]; omega)]
set_option maxRecDepth 100000 in
/-- []Vote. -/
theorem open_inns {W : World} {fuel : Nat} {cs : List Value} {d : DataW H} {p : List MemPlace} (hl : Light 61 d) (h : DataW.trod enc Try.prog W 0 (fun _ => true) true fuel 61 cs = some (d, p)) :
    ∃ (v : Value) (l : List InS), cs = [v] ∧ RdG W W.heap.size v l := by
  rcases Go.Deep.open_slice Try.underlying61 h with ⟨rfl, hx⟩ | ⟨a, len, cap, m, n, D0, Pl, rfl, _, hle, hm, hmm, hx, hi⟩
  · exact ⟨_, [], rfl, by simp, none, 0, rfl, Nat.le_refl _, by simp, fun h => by simp at h⟩
  · simp only [Prod.mk.injEq] at hx
    obtain ⟨rfl, rfl⟩ := hx
    simp only [if_true] at hmm
    subst hmm
    have hs := light_len Try.underlying61 hl
    rw [bytesInS] at hs
    simp only [List.length_map, List.length_range] at hs
    have each : ∀ k, k < len → ∃ x : InS, InSOk x ∧ ∀ i, i < 37 → W.cell? (a.add (37 * k + i)) = (innC x)[i]? := fun k hk => by
      obtain ⟨cs', hc, ht⟩ := hi k (by omega)
      rw [cellsInS] at hc
      obtain ⟨_, hcl, hat⟩ := World.cells?_some hc
      obtain ⟨x, hok, hx⟩ := open_innC hcl ht
      refine ⟨x, hok, fun i hi' => ?_⟩
      have := hat i hi'
      rw [add_add', hx] at this
      rw [Nat.mul_comm]
      exact this
    have hlen : ((List.range len).map fun k => if hk : k < len then Classical.choose (each k hk) else ⟨0, 0, 0, 0, 0, []⟩).length = len := by rw [List.length_map, List.length_range]
    refine ⟨_, (List.range len).map fun k => if hk : k < len then Classical.choose (each k hk) else ⟨0, 0, 0, 0, 0, []⟩, rfl, fun x hx => ?_, some a, _, by rw [hlen], by rw [hlen]; exact hle, by rw [hlen]; omega, fun h0 => ⟨a, rfl, ?_, fun k x hk i hi' => ?_⟩⟩
    · obtain ⟨k, hk, rfl⟩ := List.mem_map.1 hx
      have hk' := List.mem_range.1 hk
      simp only [hk', dif_pos]
      exact (Classical.choose_spec (each k hk')).1
    · rw [hlen] at h0
      have h5 := Classical.choose_spec (each 0 h0)
      have h6 := h5.2 0 (by omega)
      rw [List.getElem?_eq_getElem (by rw [innC_length h5.1]; omega)] at h6
      have := block_lt_of_cell h6
      rwa [block_add] at this
    · have hkl := (List.getElem?_eq_some_iff.1 hk).1
      rw [hlen] at hkl
      rw [List.getElem?_map, List.getElem?_range hkl] at hk
      simp only [Option.map_some, hkl, dif_pos, Option.some.injEq] at hk
      rw [← hk]
      exact (Classical.choose_spec (each k hkl)).2 i hi'
end
section
variable {H : Type} {enc : TypeId × Value → H}
set_option maxRecDepth 100000 in
/-- [3]int. -/
theorem open_three {W : World} {b0 : Nat} {v : Value} {d : DataW H} {p : List MemPlace} (hv : Value.okWide Try.prog W .any b0 53 v) (h : DataW.Trod enc Try.prog W 0 (fun _ => true) true 53 v d p) :
    ∃ a b c : Int, v = .agg #[.int .i64 a, .int .i64 b, .int .i64 c] ∧ (wfi a ∧ wfi b ∧ wfi c) := by
  obtain ⟨cs, rfl⟩ : ∃ xs : Array Value, v = .agg xs := by
    simp only [Value.okWide, Try.underlying53] at hv
    obtain ⟨cs, h1, _⟩ := hv
    exact ⟨cs, h1⟩
  obtain ⟨fuel, hf⟩ := h
  obtain ⟨ys, m', _, hd, hlen, hyl, hy⟩ := DataW.trod_array Try.underlying53 hf
  have h2 : Try.prog.cellsOf 53 = 3 := by kernel_rfl
  rw [h2] at hlen
  simp only [Prod.mk.injEq] at hd
  obtain ⟨rfl, rfl⟩ := hd
  have key : ∀ k, k < 3 → ∃ n : Int, (Value.agg cs).cells.toList[k]? = some (.int .i64 n) ∧ wfi n := fun k hk => by
    have h2 := hy k (by omega)
    rw [cellsInt', List.getElem?_eq_getElem (show k < ys.length by omega)] at h2
    obtain ⟨n, hv, hw⟩ := open_i64' h2
    refine ⟨n, ?_, hw⟩
    have h3 := congrArg (fun l : List Value => l[0]?) hv
    simp only [List.getElem?_take, List.getElem?_drop, Nat.zero_lt_one, if_true] at h3
    rw [show k * 1 + 0 = k by omega] at h3
    exact h3
  obtain ⟨a, ha, wa⟩ := key 0 (by omega)
  obtain ⟨b, hb, wb⟩ := key 1 (by omega)
  obtain ⟨c, hc, wc⟩ := key 2 (by omega)
  refine ⟨a, b, c, ?_, wa, wb, wc⟩
  have e : (Value.agg cs).cells = cs := rfl
  rw [e] at hlen ha hb hc
  have hl : cs.toList = [.int .i64 a, .int .i64 b, .int .i64 c] := by
    match hcs : cs.toList, hlen with
    | [x, y, z], _ =>
      rw [hcs] at ha hb hc
      simp at ha hb hc
      rw [ha, hb, hc]
  rw [← Array.toArray_toList (xs := cs), hl]
end
end Go.Proofs.Ytclhfokflagopaa
