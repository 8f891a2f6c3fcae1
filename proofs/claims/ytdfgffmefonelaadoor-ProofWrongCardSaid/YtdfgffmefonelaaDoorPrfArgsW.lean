/-
  The struct Way as an argument: place, size, leaf, top and path. No condition.
-/
import Derived.Test.YtdfgffmefonelaaDoorTreeArgsN
import Derived.Test.YtdfgffmefonelaaDoorPrfLawK
namespace Go.Proofs.YtdfgffmefonelaaDoor
open Go Go.RowKit Go.ChangeShapes Go.WideShapes Go.ChangeAt TreeM

theorem cellsWay : Tryd.prog.cellsOf 26 = 67 := by kernel_rfl
theorem cellsInt' : Tryd.prog.cellsOf 3 = 1 := by kernel_rfl
theorem cellsIds' : Tryd.prog.cellsOf 24 = 1 := by kernel_rfl
section
variable {H : Type} {enc : TypeId × Value → H}
theorem open_i64' {W : World} {fuel : Nat} {cs : List Value} {x : DataW H × List MemPlace} (h : DataW.trod enc Tryd.prog W 0 (fun _ => true) true fuel 3 cs = some x) : ∃ n : Int, cs = [.int .i64 n] ∧ (Lit.int .i64 n).wf = true := by
  obtain ⟨n, hn, _, hw⟩ := DataW.trod_int Tryd.underlying3 h
  exact ⟨n, hn, hw⟩
set_option maxRecDepth 100000 in
theorem open_way {W : World} {b0 : Nat} {v : Value} {d : DataW H} {p : List MemPlace} (hv : Value.okWide Tryd.prog W .any b0 26 v) (hl : Light 26 d) (h : DataW.Trod enc Tryd.prog W 0 (fun _ => true) true 26 v d p) :
    ∃ (a n : Int) (x y : D) (pv : Value) (l : List D), v = .agg (wayA a n x y pv) ∧ RdI W (fun b => b < W.heap.size) pv l := by
  obtain ⟨cs, rfl, hsz⟩ := okWide_struct Tryd.underlying26 hv
  rw [cellsWay] at hsz
  obtain ⟨fuel, hf⟩ := h
  obtain ⟨xs, n, _, hx, _, hlen, hg⟩ := DataW.trod_struct Tryd.underlying26 hf
  simp only [Prod.mk.injEq] at hx
  obtain ⟨rfl, rfl⟩ := hx
  have hxl : xs.length = 5 := hlen
  have get : ∀ j, j < 5 → ∃ y, xs[j]? = some y ∧ (xs.map (·.1))[j]? = some y.1 := fun j hj => ⟨_, List.getElem?_eq_getElem (by omega), by rw [List.getElem?_map, List.getElem?_eq_getElem (by omega)]; rfl⟩
  have one : ∀ (o : Nat) (x : Value), (cs.toList.drop o).take 1 = [x] → cs[o]? = some x := fun o x hx => by
    have h3 := congrArg (fun l : List Value => l[0]?) hx
    simp only [List.getElem?_take, List.getElem?_drop, Nat.zero_lt_one, if_true, Nat.add_zero, Array.getElem?_toList] at h3
    exact h3
  obtain ⟨y0, g0, k0⟩ := get 0 (by omega)
  obtain ⟨y1, g1, k1⟩ := get 1 (by omega)
  obtain ⟨y2, g2, k2⟩ := get 2 (by omega)
  obtain ⟨y3, g3, k3⟩ := get 3 (by omega)
  obtain ⟨y4, g4, k4⟩ := get 4 (by omega)
  have f0 : DataW.trod enc Tryd.prog W 0 (fun _ => true) true n 3 ((cs.toList.drop 0).take (Tryd.prog.cellsOf 3)) = some y0 := (hg 0 _ rfl).trans g0
  rw [cellsInt'] at f0
  have f1 : DataW.trod enc Tryd.prog W 0 (fun _ => true) true n 3 ((cs.toList.drop 1).take (Tryd.prog.cellsOf 3)) = some y1 := (hg 1 _ rfl).trans g1
  rw [cellsInt'] at f1
  have f2 : DataW.trod enc Tryd.prog W 0 (fun _ => true) true n 23 ((cs.toList.drop 2).take (Tryd.prog.cellsOf 23)) = some y2 := (hg 2 _ rfl).trans g2
  rw [cellsId] at f2
  have f3 : DataW.trod enc Tryd.prog W 0 (fun _ => true) true n 23 ((cs.toList.drop 34).take (Tryd.prog.cellsOf 23)) = some y3 := (hg 3 _ rfl).trans g3
  rw [cellsId] at f3
  have f4 : DataW.trod enc Tryd.prog W 0 (fun _ => true) true n 24 ((cs.toList.drop 66).take (Tryd.prog.cellsOf 24)) = some y4 := (hg 4 _ rfl).trans g4
  rw [cellsIds'] at f4
  obtain ⟨n0, e0, _⟩ := open_i64' f0
  obtain ⟨n1, e1, _⟩ := open_i64' f1
  obtain ⟨fx, _, hfx⟩ := open_id f2
  obtain ⟨fy, _, hfy⟩ := open_id f3
  obtain ⟨v4, l, e4, hr⟩ := open_ids (p := y4.2) (light_field Tryd.underlying26 hl (j := 4) rfl k4) f4
  refine ⟨n0, n1, fx, fy, v4, l, ?_, hr⟩
  congr 1
  refine arr_of 67 cs _ hsz fun i hi => ?_
  have c0 := one 0 _ e0
  have c1 := one 1 _ e1
  have c4 := one 66 _ e4
  by_cases h2 : i < 2
  · have : i = 0 ∨ i = 1 := by omega
    rcases this with rfl | rfl
    · exact c0
    · exact c1
  · by_cases h34 : i < 34
    · have := hfx (i - 2) (by omega)
      rw [List.getElem?_take, if_pos (by omega), List.getElem?_drop, Array.getElem?_toList, show 2 + (i - 2) = i from by omega] at this
      rw [this, if_neg (by omega), if_neg (by omega), if_pos h34]
    · by_cases h66 : i < 66
      · have := hfy (i - 34) (by omega)
        rw [List.getElem?_take, if_pos (by omega), List.getElem?_drop, Array.getElem?_toList, show 34 + (i - 34) = i from by omega] at this
        rw [this, if_neg (by omega), if_neg (by omega), if_neg h34, if_pos h66]
      · obtain rfl : i = 66 := by omega
        exact c4
end
end Go.Proofs.YtdfgffmefonelaaDoor
