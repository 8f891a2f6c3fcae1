/-
  The struct Way of layer 7 as an argument: place, size, path and root. No condition.
-/
import Derived.Test.YtdfgffmefonelaaDoorTreeArgsN
import Derived.Test.YtdfgffmefonelaaDoorShLawL
namespace Go.Proofs.YtdfgffmefonelaaDoor
open Go Go.RowKit Go.ChangeShapes Go.WideShapes Go.ChangeAt TreeM

theorem cellsWay : Tryd.prog.cellsOf 57 = 35 := by kernel_rfl
theorem cellsInt' : Tryd.prog.cellsOf 3 = 1 := by kernel_rfl
theorem cellsIds' : Tryd.prog.cellsOf 24 = 1 := by kernel_rfl
section
variable {H : Type} {enc : TypeId × Value → H}
theorem open_i64' {W : World} {fuel : Nat} {cs : List Value} {x : DataW H × List MemPlace} (h : DataW.trod enc Tryd.prog W 0 (fun _ => true) true fuel 3 cs = some x) : ∃ n : Int, cs = [.int .i64 n] ∧ (Lit.int .i64 n).wf = true := by
  obtain ⟨n, hn, _, hw⟩ := DataW.trod_int Tryd.underlying3 h
  exact ⟨n, hn, hw⟩
set_option maxRecDepth 100000 in
theorem open_wayB {W : World} {b0 : Nat} {v : Value} {d : DataW H} {p : List MemPlace} (hv : Value.okWide Tryd.prog W .any b0 57 v) (hl : Light 57 d) (h : DataW.Trod enc Tryd.prog W 0 (fun _ => true) true 57 v d p) :
    ∃ (a n : Int) (pv : Value) (l : List D) (y : D), v = .agg (wayB a n pv y) ∧ RdI W (fun b => b < W.heap.size) pv l := by
  obtain ⟨cs, rfl, hsz⟩ := okWide_struct Tryd.underlying57 hv
  rw [cellsWay] at hsz
  obtain ⟨fuel, hf⟩ := h
  obtain ⟨xs, n, _, hx, _, hlen, hg⟩ := DataW.trod_struct Tryd.underlying57 hf
  simp only [Prod.mk.injEq] at hx
  obtain ⟨rfl, rfl⟩ := hx
  have hxl : xs.length = 4 := hlen
  have get : ∀ j, j < 4 → ∃ y, xs[j]? = some y ∧ (xs.map (·.1))[j]? = some y.1 := fun j hj => ⟨_, List.getElem?_eq_getElem (by omega), by rw [List.getElem?_map, List.getElem?_eq_getElem (by omega)]; rfl⟩
  have one : ∀ (o : Nat) (x : Value), (cs.toList.drop o).take 1 = [x] → cs[o]? = some x := fun o x hx => by
    have h3 := congrArg (fun l : List Value => l[0]?) hx
    simp only [List.getElem?_take, List.getElem?_drop, Nat.zero_lt_one, if_true, Nat.add_zero, Array.getElem?_toList] at h3
    exact h3
  obtain ⟨y0, g0, k0⟩ := get 0 (by omega)
  obtain ⟨y1, g1, k1⟩ := get 1 (by omega)
  obtain ⟨y2, g2, k2⟩ := get 2 (by omega)
  obtain ⟨y3, g3, k3⟩ := get 3 (by omega)
  have f0 : DataW.trod enc Tryd.prog W 0 (fun _ => true) true n 3 ((cs.toList.drop 0).take (Tryd.prog.cellsOf 3)) = some y0 := (hg 0 _ rfl).trans g0
  rw [cellsInt'] at f0
  have f1 : DataW.trod enc Tryd.prog W 0 (fun _ => true) true n 3 ((cs.toList.drop 1).take (Tryd.prog.cellsOf 3)) = some y1 := (hg 1 _ rfl).trans g1
  rw [cellsInt'] at f1
  have f2 : DataW.trod enc Tryd.prog W 0 (fun _ => true) true n 24 ((cs.toList.drop 2).take (Tryd.prog.cellsOf 24)) = some y2 := (hg 2 _ rfl).trans g2
  rw [cellsIds'] at f2
  have f3 : DataW.trod enc Tryd.prog W 0 (fun _ => true) true n 23 ((cs.toList.drop 3).take (Tryd.prog.cellsOf 23)) = some y3 := (hg 3 _ rfl).trans g3
  rw [cellsId] at f3
  obtain ⟨n0, e0, _⟩ := open_i64' f0
  obtain ⟨n1, e1, _⟩ := open_i64' f1
  obtain ⟨v2, l, e2, hr⟩ := open_ids (p := y2.2) (light_field Tryd.underlying57 hl (j := 2) rfl k2) f2
  obtain ⟨fy, _, hfy⟩ := open_id f3
  refine ⟨n0, n1, v2, l, fy, ?_, hr⟩
  congr 1
  refine arr_of 35 cs _ hsz fun i hi => ?_
  have c0 := one 0 _ e0
  have c1 := one 1 _ e1
  have c2 := one 2 _ e2
  by_cases h3 : i < 3
  · have : i = 0 ∨ i = 1 ∨ i = 2 := by omega
    rcases this with rfl | rfl | rfl
    · exact c0
    · exact c1
    · exact c2
  · have := hfy (i - 3) (by omega)
    rw [List.getElem?_take, if_pos (by omega), List.getElem?_drop, Array.getElem?_toList, show 3 + (i - 3) = i from by omega] at this
    rw [this, if_neg (by omega), if_neg (by omega), if_neg (by omega)]
end
end Go.Proofs.YtdfgffmefonelaaDoor
