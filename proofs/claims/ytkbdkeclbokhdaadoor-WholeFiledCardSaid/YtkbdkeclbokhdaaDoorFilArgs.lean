/-
  Arguments that are slices of messages, and of pairs of numbers, opened. No condition of their own.
-/
import Derived.Test.YtkbdkeclbokhdaaDoorPackArgs
namespace Go.Proofs.YtkbdkeclbokhdaaDoor
open Go Go.RowKit Go.ChangeShapes Go.WideShapes Go.ChangeAt PackMath

/-- A slice of messages. -/
def RdMs (W : World) (ok : Nat → Prop) (A : Option Addr) (ms : List Raw) : Prop :=
  ∀ k, k < ms.length → ∃ (ad : Addr) (r : Raw) (d i l : Value), A = some ad ∧ ok ad.block ∧ ms[k]? = some r ∧ (∀ j, j < 41 → W.cell? (ad.add (41 * k + j)) = some (msgF r d i l j)) ∧ RdR W ok r d i l
/-- A slice of pairs of numbers. -/
def RdCu (W : World) (ok : Nat → Prop) (A : Option Addr) (cs : List (Int × Int)) : Prop :=
  ∀ k, k < cs.length → ∃ (ad : Addr) (p : Int × Int), A = some ad ∧ ok ad.block ∧ cs[k]? = some p ∧ W.cell? (ad.add (2 * k)) = some (.int .i64 p.1) ∧ W.cell? (ad.add (2 * k + 1)) = some (.int .i64 p.2) ∧ -9223372036854775808 ≤ p.1 ∧ p.1 ≤ 9223372036854775807
theorem cellsPairF : Tryd.prog.cellsOf 71 = 2 := by kernel_rfl
section
variable {H : Type} {enc : TypeId × Value → H}
set_option maxRecDepth 100000 in
theorem open_msgC {W : World} {fuel : Nat} {cs : Array Value} {d : DataW H} {p : List MemPlace} (hsz : cs.size = 41) (hl : Light 69 d) (hf : DataW.trod enc Tryd.prog W 0 (fun _ => true) true fuel 69 cs.toList = some (d, p)) :
    ∃ (r : Raw) (di ii li : Value), cs = msgA r di ii li ∧ RdR W (fun b => b < W.heap.size) r di ii li := by
  obtain ⟨xs, n, _, hx, _, hlen, hg⟩ := DataW.trod_struct Tryd.underlying69 hf
  simp only [Prod.mk.injEq] at hx
  obtain ⟨rfl, rfl⟩ := hx
  have hxl : xs.length = 10 := hlen
  have get : ∀ j, j < 10 → ∃ y, xs[j]? = some y ∧ (xs.map (·.1))[j]? = some y.1 := fun j hj => ⟨_, List.getElem?_eq_getElem (by omega), by rw [List.getElem?_map, List.getElem?_eq_getElem (by omega)]; rfl⟩
  have one : ∀ (o : Nat) (x : Value), (cs.toList.drop o).take 1 = [x] → cs[o]? = some x := fun o x hx => by
    have h3 := congrArg (fun l : List Value => l[0]?) hx
    simp only [List.getElem?_take, List.getElem?_drop, Nat.zero_lt_one, if_true, Nat.add_zero, Array.getElem?_toList] at h3
    exact h3
  obtain ⟨y0, g0, k0⟩ := get 0 (by omega)
  obtain ⟨y1, g1, k1⟩ := get 1 (by omega)
  obtain ⟨y2, g2, k2⟩ := get 2 (by omega)
  obtain ⟨y3, g3, k3⟩ := get 3 (by omega)
  obtain ⟨y4, g4, k4⟩ := get 4 (by omega)
  obtain ⟨y5, g5, k5⟩ := get 5 (by omega)
  obtain ⟨y6, g6, k6⟩ := get 6 (by omega)
  obtain ⟨y7, g7, k7⟩ := get 7 (by omega)
  obtain ⟨y8, g8, k8⟩ := get 8 (by omega)
  obtain ⟨y9, g9, k9⟩ := get 9 (by omega)
  have f0 : DataW.trod enc Tryd.prog W 0 (fun _ => true) true n 3 ((cs.toList.drop 0).take (Tryd.prog.cellsOf 3)) = some y0 := (hg 0 _ rfl).trans g0
  rw [cellsInt] at f0
  have f1 : DataW.trod enc Tryd.prog W 0 (fun _ => true) true n 3 ((cs.toList.drop 1).take (Tryd.prog.cellsOf 3)) = some y1 := (hg 1 _ rfl).trans g1
  rw [cellsInt] at f1
  have f2 : DataW.trod enc Tryd.prog W 0 (fun _ => true) true n 3 ((cs.toList.drop 2).take (Tryd.prog.cellsOf 3)) = some y2 := (hg 2 _ rfl).trans g2
  rw [cellsInt] at f2
  have f3 : DataW.trod enc Tryd.prog W 0 (fun _ => true) true n 3 ((cs.toList.drop 3).take (Tryd.prog.cellsOf 3)) = some y3 := (hg 3 _ rfl).trans g3
  rw [cellsInt] at f3
  have f4 : DataW.trod enc Tryd.prog W 0 (fun _ => true) true n 3 ((cs.toList.drop 4).take (Tryd.prog.cellsOf 3)) = some y4 := (hg 4 _ rfl).trans g4
  rw [cellsInt] at f4
  have f5 : DataW.trod enc Tryd.prog W 0 (fun _ => true) true n 3 ((cs.toList.drop 5).take (Tryd.prog.cellsOf 3)) = some y5 := (hg 5 _ rfl).trans g5
  rw [cellsInt] at f5
  have f6 : DataW.trod enc Tryd.prog W 0 (fun _ => true) true n 37 ((cs.toList.drop 6).take (Tryd.prog.cellsOf 37)) = some y6 := (hg 6 _ rfl).trans g6
  rw [cellsId] at f6
  have f7 : DataW.trod enc Tryd.prog W 0 (fun _ => true) true n 42 ((cs.toList.drop 38).take (Tryd.prog.cellsOf 42)) = some y7 := (hg 7 _ rfl).trans g7
  rw [cellsS] at f7
  have f8 : DataW.trod enc Tryd.prog W 0 (fun _ => true) true n 67 ((cs.toList.drop 39).take (Tryd.prog.cellsOf 67)) = some y8 := (hg 8 _ rfl).trans g8
  rw [cellsIds] at f8
  have f9 : DataW.trod enc Tryd.prog W 0 (fun _ => true) true n 57 ((cs.toList.drop 40).take (Tryd.prog.cellsOf 57)) = some y9 := (hg 9 _ rfl).trans g9
  rw [cellsRows] at f9
  obtain ⟨n0, e0⟩ := open_i64 f0
  obtain ⟨n1, e1⟩ := open_i64 f1
  obtain ⟨n2, e2⟩ := open_i64 f2
  obtain ⟨n3, e3⟩ := open_i64 f3
  obtain ⟨n4, e4⟩ := open_i64 f4
  obtain ⟨n5, e5⟩ := open_i64 f5
  obtain ⟨fi, _, hfi⟩ := open_id f6
  obtain ⟨Ad, cd, L, e7, hd⟩ := open_bytes (p := y7.2) (light_field Tryd.underlying69 hl (j := 7) rfl k7) f7
  obtain ⟨Ai, ci, is, e8, hil, hi⟩ := open_ids (p := y8.2) (light_field Tryd.underlying69 hl (j := 8) rfl k8) f8
  obtain ⟨Al, cl, ls, e9, hll, hls⟩ := open_rows (p := y9.2) (light_field Tryd.underlying69 hl (j := 9) rfl k9) f9
  refine ⟨⟨n0, n1, n2, n3, n4, n5, fi, L, is, ls⟩, _, _, _, ?_, hd, ⟨Ai, ci, rfl, hil, hi⟩, ⟨Al, cl, rfl, hll, hls⟩⟩
  refine arr_of 41 cs _ hsz fun i hi41 => ?_
  have c0 := one 0 _ e0
  have c1 := one 1 _ e1
  have c2 := one 2 _ e2
  have c3 := one 3 _ e3
  have c4 := one 4 _ e4
  have c5 := one 5 _ e5
  have c7 := one 38 _ e7
  have c8 := one 39 _ e8
  have c9 := one 40 _ e9
  by_cases h6 : i < 6
  · have : i = 0 ∨ i = 1 ∨ i = 2 ∨ i = 3 ∨ i = 4 ∨ i = 5 := by omega
    rcases this with rfl | rfl | rfl | rfl | rfl | rfl
    · exact c0
    · exact c1
    · exact c2
    · exact c3
    · exact c4
    · exact c5
  · by_cases h38 : i < 38
    · have := hfi (i - 6) (by omega)
      rw [List.getElem?_take, if_pos (by omega), List.getElem?_drop, Array.getElem?_toList] at this
      have e : (6 + (i - 6)) = i := by omega
      have this' : cs[6 + (i - 6)]? = some (bv (fi (i - 6))) := this
      rw [e] at this'
      rw [this']
      obtain ⟨j, rfl⟩ : ∃ j, i = j + 6 := ⟨i - 6, by omega⟩
      show _ = some (if j + 6 < 38 then bv (fi (j + 6 - 6)) else _)
      rw [if_pos h38]
    · have : i = 38 ∨ i = 39 ∨ i = 40 := by omega
      rcases this with rfl | rfl | rfl
      · exact c7
      · exact c8
      · exact c9
set_option maxRecDepth 100000 in
theorem open_msgs {W : World} {fuel : Nat} {cs : List Value} {d : DataW H} {p : List MemPlace} (hl : Light 65 d) (h : DataW.trod enc Tryd.prog W 0 (fun _ => true) true fuel 65 cs = some (d, p)) :
    ∃ (A : Option Addr) (c : Nat) (ms : List Raw), cs = [.slice A ms.length c] ∧ ms.length ≤ 140737488351232 ∧ RdMs W (fun b => b < W.heap.size) A ms := by
  rcases Go.Deep.open_slice Tryd.underlying65 h with ⟨rfl, hx⟩ | ⟨a, len, cap, m, n, D, Pl, rfl, _, hle, hm, hmm, hx, hi⟩
  · exact ⟨none, 0, [], rfl, by simp, fun k hk => by simp at hk⟩
  · simp only [Prod.mk.injEq] at hx
    obtain ⟨rfl, rfl⟩ := hx
    simp only [if_true] at hmm
    subst hmm
    have hs := light_len Tryd.underlying65 hl
    simp only [List.length_map, List.length_range] at hs
    have hbm : 1 ≤ Tryd.prog.bytesOf 69 := of_decide_eq_true (by kernel_rfl)
    have hcap : len ≤ 140737488351232 := Nat.le_trans (Nat.le_trans (Nat.le_add_right len (m - len)) (Nat.le_mul_of_pos_right _ hbm)) hs
    have each : ∀ k, k < len → ∃ (r : Raw), ∃ (d i l : Value), (∀ j, j < 41 → W.cell? (a.add (41 * k + j)) = some (msgF r d i l j)) ∧ RdR W (fun b => b < W.heap.size) r d i l := fun k hk => by
      obtain ⟨cs', hc, ht⟩ := hi k (by omega)
      rw [cellsMsg] at hc
      have hlk := light_elem Tryd.underlying65 hl (List.mem_map.2 ⟨k, List.mem_range.2 hk, rfl⟩)
      obtain ⟨hlen, hcl, hat⟩ := World.cells?_some hc
      obtain ⟨r, di, ii, li, em, hr⟩ := open_msgC (cs := cs'.toArray) (by rw [List.size_toArray]; first | exact hlen | exact hcl) hlk ht
      refine ⟨r, di, ii, li, fun j hj => ?_, hr⟩
      have h1 := hat j hj
      rw [add_add, Nat.mul_comm] at h1
      have h2 := congrArg (fun z : Array Value => z[j]?) em
      simp only [List.getElem?_toArray] at h2
      rw [h1, h2]
      unfold msgA
      rw [arr_get, if_pos hj]
    refine ⟨some a, _, (List.range len).map fun k => if hk : k < len then Classical.choose (each k hk) else ⟨0, 0, 0, 0, 0, 0, fun _ => 0, [], [], []⟩, by rw [List.length_map, List.length_range], by simp; omega, fun k hk => ?_⟩
    have hk' : k < len := by simpa using hk
    obtain ⟨d, i, l, hc, hr⟩ := Classical.choose_spec (each k hk')
    refine ⟨a, _, d, i, l, rfl, ?_, ?_, hc, hr⟩
    · have := block_lt_of_cell (hc 0 (by omega))
      rwa [block_add] at this
    · rw [List.getElem?_map, List.getElem?_range hk']
      simp [hk']
set_option maxRecDepth 100000 in
theorem open_cuts {W : World} {fuel : Nat} {cs : List Value} {d : DataW H} {p : List MemPlace} (hl : Light 66 d) (h : DataW.trod enc Tryd.prog W 0 (fun _ => true) true fuel 66 cs = some (d, p)) :
    ∃ (A : Option Addr) (c : Nat) (ms : List (Int × Int)), cs = [.slice A ms.length c] ∧ ms.length ≤ 140737488351232 ∧ RdCu W (fun b => b < W.heap.size) A ms := by
  rcases Go.Deep.open_slice Tryd.underlying66 h with ⟨rfl, hx⟩ | ⟨a, len, cap, m, n, D, Pl, rfl, _, hle, hm, hmm, hx, hi⟩
  · exact ⟨none, 0, [], rfl, by simp, fun k hk => by simp at hk⟩
  · simp only [Prod.mk.injEq] at hx
    obtain ⟨rfl, rfl⟩ := hx
    simp only [if_true] at hmm
    subst hmm
    have hs := light_len Tryd.underlying66 hl
    simp only [List.length_map, List.length_range] at hs
    have hbm : 1 ≤ Tryd.prog.bytesOf 71 := of_decide_eq_true (by kernel_rfl)
    have hcap : len ≤ 140737488351232 := Nat.le_trans (Nat.le_trans (Nat.le_add_right len (m - len)) (Nat.le_mul_of_pos_right _ hbm)) hs
    have each : ∀ k, k < len → ∃ (p : Int × Int), W.cell? (a.add (2 * k)) = some (.int .i64 p.1) ∧ W.cell? (a.add (2 * k + 1)) = some (.int .i64 p.2) ∧ -9223372036854775808 ≤ p.1 ∧ p.1 ≤ 9223372036854775807 := fun k hk => by
      obtain ⟨cs', hc, ht⟩ := hi k (by omega)
      rw [cellsPairF] at hc
      obtain ⟨ys, m', _, _, hlen, hyl, hy⟩ := DataW.trod_array Tryd.underlying71 ht
      obtain ⟨_, hcl, hat⟩ := World.cells?_some hc
      have key : ∀ j, j < 2 → ∃ z : Int, cs'[j]? = some (.int .i64 z) ∧ (Lit.int .i64 z).wf = true := fun j hj => by
        have h2 := hy j (by omega)
        rw [cellsInt, List.getElem?_eq_getElem (show j < ys.length by omega)] at h2
        obtain ⟨z, hz, _, wz⟩ := DataW.trod_int Tryd.underlying3 h2
        refine ⟨z, ?_, wz⟩
        have h3 := congrArg (fun l : List Value => l[0]?) hz
        simp only [List.getElem?_take, List.getElem?_drop, Nat.zero_lt_one, if_true] at h3
        rw [show j * 1 + 0 = j by omega] at h3
        exact h3
      obtain ⟨z0, e0, w0⟩ := key 0 (by omega)
      obtain ⟨z1, e1, _⟩ := key 1 (by omega)
      have at2 : ∀ j x, j < 2 → cs'[j]? = some x → W.cell? (a.add (2 * k + j)) = some x := fun j x hj hx => by
        have := hat j hj
        rw [add_add, Nat.mul_comm] at this
        rw [this, hx]
      have hw : -9223372036854775808 ≤ z0 ∧ z0 ≤ 9223372036854775807 := by
        have h' : (decide (-9223372036854775808 ≤ z0) && decide (z0 ≤ 9223372036854775807)) = true := w0
        simpa using h'
      exact ⟨(z0, z1), at2 0 _ (by omega) e0, at2 1 _ (by omega) e1, hw.1, hw.2⟩
    refine ⟨some a, _, (List.range len).map fun k => if hk : k < len then Classical.choose (each k hk) else (0, 0), by rw [List.length_map, List.length_range], by simp; omega, fun k hk => ?_⟩
    have hk' : k < len := by simpa using hk
    obtain ⟨h1, h2, h3, h4⟩ := Classical.choose_spec (each k hk')
    refine ⟨a, _, rfl, ?_, ?_, h1, h2, h3, h4⟩
    · have := block_lt_of_cell h1
      rwa [block_add] at this
    · rw [List.getElem?_map, List.getElem?_range hk']
      simp [hk']
end
end Go.Proofs.YtkbdkeclbokhdaaDoor
