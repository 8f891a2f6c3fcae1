/-
  An argument that is a slice of steps of a post, opened. No condition of its own.
-/
import Derived.Test.YtekakelkjnhehaaPackArgs
import Derived.Test.YtekakelkjnhehaaQOps
namespace Go.Proofs.Ytekakelkjnhehaa
open Go Go.RowKit Go.ChangeShapes Go.WideShapes Go.ChangeAt PackMath

theorem cellsOpP : Try.prog.cellsOf 38 = 48 := by kernel_rfl
theorem cellsPl : Try.prog.cellsOf 29 = 2 := by kernel_rfl
theorem cellsBo : Try.prog.cellsOf 4 = 1 := by kernel_rfl
section
variable {H : Type} {enc : TypeId × Value → H}
set_option maxRecDepth 100000 in
theorem open_msgC {W : World} {fuel : Nat} {cs : Array Value} {d : DataW H} {p : List MemPlace} (hsz : cs.size = 41) (hl : Light 36 d) (hf : DataW.trod enc Try.prog W 0 (fun _ => true) true fuel 36 cs.toList = some (d, p)) :
    ∃ (r : Raw) (di ii li : Value), cs = msgA r di ii li ∧ RdR W (fun b => b < W.heap.size) r di ii li := by
  obtain ⟨xs, n, _, hx, _, hlen, hg⟩ := DataW.trod_struct Try.underlying36 hf
  simp only [Prod.mk.injEq] at hx
  obtain ⟨rfl, rfl⟩ := hx
  have hxl : xs.length = 10 := hlen
  have get : ∀ j, j < 10 → ∃ y, xs[j]? = some y ∧ (xs.map (·.1))[j]? = some y.1 := fun j hj => ⟨_, List.getElem?_eq_getElem (by omega), by rw [List.getElem?_map, List.getElem?_eq_getElem (by omega)]; rfl⟩
  have one : ∀ (o : Nat) (x : Value), (cs.toList.drop o).take 1 = [x] → cs[o]? = some x := fun o x hx => by
    have h3 := congrArg (fun l : List Value => l[0]?) hx
    simp only [List.getElem?_take, List.getElem?_drop, Nat.zero_lt_one, if_true, Nat.add_zero, Array.getElem?_toList] at h3
    exact h3
  obtain ⟨y0, g0, k0⟩ := get 0 (by omega)
  obtain ⟨y1, g1, k1⟩ := get 1 (by omega)
  obtain ⟨y2, g2, k2⟩ := get 2 (by omega)
  obtain ⟨y3, g3, k3⟩ := get 3 (by omega)
  obtain ⟨y4, g4, k4⟩ := get 4 (by omega)
  obtain ⟨y5, g5, k5⟩ := get 5 (by omega)
  obtain ⟨y6, g6, k6⟩ := get 6 (by omega)
  obtain ⟨y7, g7, k7⟩ := get 7 (by omega)
  obtain ⟨y8, g8, k8⟩ := get 8 (by omega)
  obtain ⟨y9, g9, k9⟩ := get 9 (by omega)
  have f0 : DataW.trod enc Try.prog W 0 (fun _ => true) true n 3 ((cs.toList.drop 0).take (Try.prog.cellsOf 3)) = some y0 := (hg 0 _ rfl).trans g0
  rw [cellsInt] at f0
  have f1 : DataW.trod enc Try.prog W 0 (fun _ => true) true n 3 ((cs.toList.drop 1).take (Try.prog.cellsOf 3)) = some y1 := (hg 1 _ rfl).trans g1
  rw [cellsInt] at f1
  have f2 : DataW.trod enc Try.prog W 0 (fun _ => true) true n 3 ((cs.toList.drop 2).take (Try.prog.cellsOf 3)) = some y2 := (hg 2 _ rfl).trans g2
  rw [cellsInt] at f2
  have f3 : DataW.trod enc Try.prog W 0 (fun _ => true) true n 3 ((cs.toList.drop 3).take (Try.prog.cellsOf 3)) = some y3 := (hg 3 _ rfl).trans g3
  rw [cellsInt] at f3
  have f4 : DataW.trod enc Try.prog W 0 (fun _ => true) true n 3 ((cs.toList.drop 4).take (Try.prog.cellsOf 3)) = some y4 := (hg 4 _ rfl).trans g4
  rw [cellsInt] at f4
  have f5 : DataW.trod enc Try.prog W 0 (fun _ => true) true n 3 ((cs.toList.drop 5).take (Try.prog.cellsOf 3)) = some y5 := (hg 5 _ rfl).trans g5
  rw [cellsInt] at f5
  have f6 : DataW.trod enc Try.prog W 0 (fun _ => true) true n 31 ((cs.toList.drop 6).take (Try.prog.cellsOf 31)) = some y6 := (hg 6 _ rfl).trans g6
  rw [cellsId] at f6
  have f7 : DataW.trod enc Try.prog W 0 (fun _ => true) true n 32 ((cs.toList.drop 38).take (Try.prog.cellsOf 32)) = some y7 := (hg 7 _ rfl).trans g7
  rw [cellsS] at f7
  have f8 : DataW.trod enc Try.prog W 0 (fun _ => true) true n 33 ((cs.toList.drop 39).take (Try.prog.cellsOf 33)) = some y8 := (hg 8 _ rfl).trans g8
  rw [cellsIds] at f8
  have f9 : DataW.trod enc Try.prog W 0 (fun _ => true) true n 34 ((cs.toList.drop 40).take (Try.prog.cellsOf 34)) = some y9 := (hg 9 _ rfl).trans g9
  rw [cellsRows] at f9
  obtain ⟨n0, e0⟩ := open_i64 f0
  obtain ⟨n1, e1⟩ := open_i64 f1
  obtain ⟨n2, e2⟩ := open_i64 f2
  obtain ⟨n3, e3⟩ := open_i64 f3
  obtain ⟨n4, e4⟩ := open_i64 f4
  obtain ⟨n5, e5⟩ := open_i64 f5
  obtain ⟨fi, _, hfi⟩ := open_id f6
  obtain ⟨Ad, cd, L, e7, hd⟩ := open_bytes (p := y7.2) (light_field Try.underlying36 hl (j := 7) rfl k7) f7
  obtain ⟨Ai, ci, is, e8, hil, hi⟩ := open_ids (p := y8.2) (light_field Try.underlying36 hl (j := 8) rfl k8) f8
  obtain ⟨Al, cl, ls, e9, hll, hls⟩ := open_rows (p := y9.2) (light_field Try.underlying36 hl (j := 9) rfl k9) f9
  refine ⟨⟨n0, n1, n2, n3, n4, n5, fi, L, is, ls⟩, _, _, _, ?_, hd, ⟨Ai, ci, rfl, hil, hi⟩, ⟨Al, cl, rfl, hll, hls⟩⟩
  refine arr_of 41 cs _ hsz fun i hi41 => ?_
  have c0 := one 0 _ e0
  have c1 := one 1 _ e1
  have c2 := one 2 _ e2
  have c3 := one 3 _ e3
  have c4 := one 4 _ e4
  have c5 := one 5 _ e5
  have c7 := one 38 _ e7
  have c8 := one 39 _ e8
  have c9 := one 40 _ e9
  by_cases h6 : i < 6
  · have : i = 0 ∨ i = 1 ∨ i = 2 ∨ i = 3 ∨ i = 4 ∨ i = 5 := by omega
    rcases this with rfl | rfl | rfl | rfl | rfl | rfl
    · exact c0
    · exact c1
    · exact c2
    · exact c3
    · exact c4
    · exact c5
  · by_cases h38 : i < 38
    · have := hfi (i - 6) (by omega)
      rw [List.getElem?_take, if_pos (by omega), List.getElem?_drop, Array.getElem?_toList] at this
      have e : (6 + (i - 6)) = i := by omega
      have this' : cs[6 + (i - 6)]? = some (bv (fi (i - 6))) := this
      rw [e] at this'
      rw [this']
      obtain ⟨j, rfl⟩ : ∃ j, i = j + 6 := ⟨i - 6, by omega⟩
      show _ = some (if j + 6 < 38 then bv (fi (j + 6 - 6)) else _)
      rw [if_pos h38]
    · have : i = 38 ∨ i = 39 ∨ i = 40 := by omega
      rcases this with rfl | rfl | rfl
      · exact c7
      · exact c8
      · exact c9
theorem open_place {W : World} {fuel : Nat} {cs : List Value} {x : DataW H × List MemPlace} (h : DataW.trod enc Try.prog W 0 (fun _ => true) true fuel 29 cs = some x) : ∃ (b : Bool) (n : Int), cs[0]? = some (.bool b) ∧ cs[1]? = some (.int .i64 n) := by
  obtain ⟨ys, n', hn', hy, hlen, hyl, hf⟩ := DataW.trod_struct Try.underlying29 h
  have hyl2 : ys.length = 2 := hyl
  have one : ∀ (o : Nat) (x : Value), (cs.drop o).take 1 = [x] → cs[o]? = some x := fun o x hx => by
    have h3 := congrArg (fun l : List Value => l[0]?) hx
    simp only [List.getElem?_take, List.getElem?_drop, Nat.zero_lt_one, if_true, Nat.add_zero] at h3
    exact h3
  have f0 : DataW.trod enc Try.prog W 0 (fun _ => true) true n' 4 ((cs.drop 0).take (Try.prog.cellsOf 4)) = some ys[0] := (hf 0 _ rfl).trans (List.getElem?_eq_getElem (by omega))
  have f1 : DataW.trod enc Try.prog W 0 (fun _ => true) true n' 3 ((cs.drop 1).take (Try.prog.cellsOf 3)) = some ys[1] := (hf 1 _ rfl).trans (List.getElem?_eq_getElem (by omega))
  rw [cellsBo] at f0
  rw [cellsInt] at f1
  obtain ⟨z0, e0, _⟩ := DataW.trod_bool Try.underlying4 f0
  obtain ⟨z1, e1, _, _⟩ := DataW.trod_int Try.underlying3 f1
  exact ⟨z0, z1, one 0 _ e0, one 1 _ e1⟩
set_option maxRecDepth 100000 in
theorem open_opsP {W : World} {fuel : Nat} {cs : List Value} {d : DataW H} {p : List MemPlace} (hl : Light 22 d) (h : DataW.trod enc Try.prog W 0 (fun _ => true) true fuel 22 cs = some (d, p)) :
    ∃ (A : Option Addr) (c : Nat) (ops : List OpP), cs = [.slice A ops.length c] ∧ RdOpsP W (fun b => b < W.heap.size) A ops := by
  rcases Go.Deep.open_slice Try.underlying22 h with ⟨rfl, hx⟩ | ⟨a, len, cap, m, n, D, Pl, rfl, _, hle, hm, hmm, hx, hi⟩
  · exact ⟨none, 0, [], rfl, fun k hk => by simp at hk⟩
  · simp only [Prod.mk.injEq] at hx
    obtain ⟨rfl, rfl⟩ := hx
    simp only [if_true] at hmm
    subst hmm
    have each : ∀ k, k < len → ∃ (o : OpP), ∃ (d i l u : Value), (∀ j, j < 48 → W.cell? (a.add (48 * k + j)) = some (opF o d i l u j)) ∧ RdR W (fun b => b < W.heap.size) o.r d i l ∧ RdB W (fun b => b < W.heap.size) u o.bs := fun k hk => by
      obtain ⟨cs', hc, ht⟩ := hi k (by omega)
      rw [cellsOpP] at hc
      have hlk := light_elem Try.underlying22 hl (List.mem_map.2 ⟨k, List.mem_range.2 hk, rfl⟩)
      obtain ⟨ys, n', hn', hy, hlen, hyl, hf⟩ := DataW.trod_struct Try.underlying38 ht
      obtain ⟨_, hcl, hat⟩ := World.cells?_some hc
      simp only [Prod.mk.injEq] at hy
      obtain ⟨hy1, hy2⟩ := hy
      rw [hy1] at hlk
      rw [cellsOpP] at hlen
      have hyl6 : ys.length = 6 := hyl
      have get : ∀ j, j < 6 → ∃ y, ys[j]? = some y ∧ (ys.map (·.1))[j]? = some y.1 := fun j hj => ⟨_, List.getElem?_eq_getElem (by omega), by rw [List.getElem?_map, List.getElem?_eq_getElem (by omega)]; rfl⟩
      have one : ∀ (o : Nat) (x : Value), (cs'.drop o).take 1 = [x] → cs'[o]? = some x := fun o x hx => by
        have h3 := congrArg (fun l : List Value => l[0]?) hx
        simp only [List.getElem?_take, List.getElem?_drop, Nat.zero_lt_one, if_true, Nat.add_zero] at h3
        exact h3
      have part : ∀ (o m j : Nat) (x : Value), j < m → ((cs'.drop o).take m)[j]? = some x → cs'[o + j]? = some x := fun o m j x hj hx => by
        rw [List.getElem?_take, if_pos hj, List.getElem?_drop] at hx
        exact hx
      have atc : ∀ j x, j < 48 → cs'[j]? = some x → W.cell? (a.add (48 * k + j)) = some x := fun j x hj hx => by
        have := hat j hj
        rw [add_add, Nat.mul_comm] at this
        rw [this, hx]
      obtain ⟨y0, g0, k0⟩ := get 0 (by omega)
      obtain ⟨y1, g1, k1⟩ := get 1 (by omega)
      obtain ⟨y2, g2, k2⟩ := get 2 (by omega)
      obtain ⟨y3, g3, k3⟩ := get 3 (by omega)
      obtain ⟨y4, g4, k4⟩ := get 4 (by omega)
      obtain ⟨y5, g5, k5⟩ := get 5 (by omega)
      have f0 : DataW.trod enc Try.prog W 0 (fun _ => true) true n' 3 ((cs'.drop 0).take (Try.prog.cellsOf 3)) = some y0 := (hf 0 _ rfl).trans g0
      have f1 : DataW.trod enc Try.prog W 0 (fun _ => true) true n' 3 ((cs'.drop 1).take (Try.prog.cellsOf 3)) = some y1 := (hf 1 _ rfl).trans g1
      have f2 : DataW.trod enc Try.prog W 0 (fun _ => true) true n' 29 ((cs'.drop 2).take (Try.prog.cellsOf 29)) = some y2 := (hf 2 _ rfl).trans g2
      have f3 : DataW.trod enc Try.prog W 0 (fun _ => true) true n' 29 ((cs'.drop 4).take (Try.prog.cellsOf 29)) = some y3 := (hf 3 _ rfl).trans g3
      have f4 : DataW.trod enc Try.prog W 0 (fun _ => true) true n' 36 ((cs'.drop 6).take (Try.prog.cellsOf 36)) = some y4 := (hf 4 _ rfl).trans g4
      have f5 : DataW.trod enc Try.prog W 0 (fun _ => true) true n' 32 ((cs'.drop 47).take (Try.prog.cellsOf 32)) = some y5 := (hf 5 _ rfl).trans g5
      rw [cellsInt] at f0 f1
      rw [cellsPl] at f2 f3
      rw [cellsMsg] at f4
      rw [cellsS] at f5
      obtain ⟨z0, e0, _, _⟩ := DataW.trod_int Try.underlying3 f0
      obtain ⟨z1, e1, _, _⟩ := DataW.trod_int Try.underlying3 f1
      obtain ⟨b2, n2, e2, e2'⟩ := open_place f2
      obtain ⟨b3, n3, e3, e3'⟩ := open_place f3
      have hl4 : Light 36 y4.1 := light_field (j := 4) Try.underlying38 hlk rfl k4
      have hl5 : Light 32 y5.1 := light_field (j := 5) Try.underlying38 hlk rfl k5
      obtain ⟨r, di, ii, li, em, hr⟩ := open_msgC (cs := ((cs'.drop 6).take 41).toArray) (d := y4.1) (p := y4.2) (by rw [List.size_toArray, List.length_take, List.length_drop]; omega) hl4 f4
      obtain ⟨A5, c5, L5, e5, hr5⟩ := open_bytes hl5 f5
      refine ⟨⟨z0, z1, b2, n2, b3, n3, r, L5⟩, di, ii, li, .slice A5 L5.length c5, fun j hj => atc j _ hj ?_, hr, hr5⟩
      have hmm : ∀ q, q < 41 → cs'[6 + q]? = some (msgF r di ii li q) := fun q hq => by
        refine part 6 41 q _ hq ?_
        have := congrArg (fun z : Array Value => z[q]?) em
        simp only [List.getElem?_toArray] at this
        rw [this]
        unfold msgA
        rw [arr_get, if_pos hq]
      have c0 := one 0 _ e0
      have c1 := one 1 _ e1
      have c2 := part 2 2 0 _ (by omega) e2
      have c3 := part 2 2 1 _ (by omega) e2'
      have c4 := part 4 2 0 _ (by omega) e3
      have c5' := part 4 2 1 _ (by omega) e3'
      have c47 := one 47 _ e5
      by_cases h6 : j < 6
      · have : j = 0 ∨ j = 1 ∨ j = 2 ∨ j = 3 ∨ j = 4 ∨ j = 5 := by omega
        rcases this with rfl | rfl | rfl | rfl | rfl | rfl
        · exact c0
        · exact c1
        · exact c2
        · exact c3
        · exact c4
        · exact c5'
      · obtain ⟨q, rfl⟩ : ∃ q, j = q + 6 := ⟨j - 6, by omega⟩
        show _ = some (if q + 6 < 47 then msgF r di ii li (q + 6 - 6) else .slice A5 L5.length c5)
        by_cases h47 : q + 6 < 47
        · rw [if_pos h47, Nat.add_sub_cancel, Nat.add_comm q 6]
          exact hmm q (by omega)
        · obtain rfl : q = 41 := by omega
          exact c47
    refine ⟨some a, _, (List.range len).map fun k => if hk : k < len then Classical.choose (each k hk) else ⟨0, 0, false, 0, false, 0, guardR, []⟩, by rw [List.length_map, List.length_range], fun k hk => ?_⟩
    have hk' : k < len := by simpa using hk
    obtain ⟨d, i, l, u, hc, hr, hu⟩ := Classical.choose_spec (each k hk')
    refine ⟨a, _, d, i, l, u, rfl, ?_, ?_, hc, hr, hu⟩
    · have := block_lt_of_cell (hc 0 (by omega))
      rwa [block_add] at this
    · rw [List.getElem?_map, List.getElem?_range hk']
      simp [hk']
end
end Go.Proofs.Ytekakelkjnhehaa
