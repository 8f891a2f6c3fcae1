/-
  Arguments of trees and proofs, opened: slices of IDs, IDs, slices of slices of bytes. No condition.
  The struct Shown of layer 7 as an argument: place, entry and path. No condition.
-/
import Derived.Test.YtlnapnbccojohaaDoorLaidT
import Derived.Test.YtlnapnbccojohaaDoorTreeFn
import Derived.Test.YtlnapnbccojohaaDoorCards
import Derived.Test.YtlnapnbccojohaaDoorTie
namespace Go.Proofs.YtlnapnbccojohaaDoor
open Go Go.RowKit Go.ChangeShapes Go.WideShapes Go.ChangeAt TreeM

theorem cellsS : Tryd.prog.cellsOf 50 = 1 := by kernel_rfl
theorem bytesS : Tryd.prog.bytesOf 50 = 24 := by kernel_rfl
theorem cellsId : Tryd.prog.cellsOf 23 = 32 := by kernel_rfl
theorem bytesId : Tryd.prog.bytesOf 23 = 32 := by kernel_rfl
theorem add_add' (a : Addr) (i j : Nat) : (a.add i).add j = a.add (i + j) := add_add a i j
section
variable {H : Type} {enc : TypeId × Value → H}
set_option maxRecDepth 100000 in
/-- [][]byte. -/
theorem open_rows {W : World} {fuel : Nat} {cs : List Value} {d : DataW H} {p : List MemPlace} (hl : Light 39 d) (h : DataW.trod enc Tryd.prog W 0 (fun _ => true) true fuel 39 cs = some (d, p)) :
    ∃ (A : Option Addr) (c : Nat) (ps : List (List UInt8)), cs = [.slice A ps.length c] ∧ ps.length ≤ 140737488351232 ∧ RdP W (fun b => b < W.heap.size) A ps := by
  rcases Go.Deep.open_slice Tryd.underlying39 h with ⟨rfl, hx⟩ | ⟨a, len, cap, m, n, D, Pl, rfl, _, hle, hm, hmm, hx, hi⟩
  · exact ⟨none, 0, [], rfl, by simp, fun k hk => by simp at hk⟩
  · simp only [Prod.mk.injEq] at hx
    obtain ⟨rfl, rfl⟩ := hx
    simp only [if_true] at hmm
    subst hmm
    have hs := light_len Tryd.underlying39 hl
    rw [bytesS] at hs
    simp only [List.length_map, List.length_range] at hs
    have each : ∀ k, k < len → ∃ (A : Option Addr) (c : Nat) (L : List UInt8), W.cell? (a.add k) = some (.slice A L.length c) ∧ RdB W (fun b => b < W.heap.size) (.slice A L.length c) L := fun k hk => by
      obtain ⟨cs', hc, ht⟩ := hi k (by omega)
      rw [cellsS] at hc
      obtain ⟨A, c, L, rfl, hr⟩ := open_bytes (light_elem Tryd.underlying39 hl (List.mem_map.2 ⟨k, List.mem_range.2 hk, rfl⟩)) ht
      obtain ⟨_, _, hat⟩ := World.cells?_some hc
      have := hat 0 (by omega)
      rw [Nat.mul_one, add_add', Nat.add_zero] at this
      exact ⟨A, c, L, this, hr⟩
    refine ⟨some a, _, (List.range len).map fun k => if hk : k < len then Classical.choose (Classical.choose_spec (Classical.choose_spec (each k hk))) else [], by rw [List.length_map, List.length_range], by simp; omega, fun k hk => ?_⟩
    have hk' : k < len := by simpa using hk
    have hsp := Classical.choose_spec (Classical.choose_spec (Classical.choose_spec (each k hk')))
    refine ⟨a, _, rfl, ?_, hsp.1, ?_⟩
    · have := block_lt_of_cell hsp.1
      rwa [block_add] at this
    · have e : ((List.range len).map fun k => if hk : k < len then Classical.choose (Classical.choose_spec (Classical.choose_spec (each k hk))) else []).getD k [] = Classical.choose (Classical.choose_spec (Classical.choose_spec (each k hk'))) := by
        rw [List.getD_eq_getElem?_getD, List.getElem?_map, List.getElem?_range hk']
        simp [hk']
      rw [e]
      exact hsp.2
/-- An ID. -/
theorem open_id {W : World} {fuel : Nat} {cs : List Value} {x : DataW H × List MemPlace} (h : DataW.trod enc Tryd.prog W 0 (fun _ => true) true fuel 23 cs = some x) : ∃ f : Nat → UInt8, cs.length = 32 ∧ ∀ i, i < 32 → cs[i]? = some (bv (f i)) := by
  obtain ⟨ys, m', _, _, hlen, hyl, hy⟩ := DataW.trod_array Tryd.underlying23 h
  rw [cellsId] at hlen
  have key : ∀ k, k < 32 → ∃ n : Int, cs[k]? = some (.int .u8 n) ∧ (Lit.int .u8 n).wf = true := fun k hk => by
    have h2 := hy k (by omega)
    rw [cells8, List.getElem?_eq_getElem (show k < ys.length by omega)] at h2
    obtain ⟨n, hn, _, hw⟩ := DataW.trod_int Tryd.underlying5 h2
    refine ⟨n, ?_, hw⟩
    have h3 := congrArg (fun l : List Value => l[0]?) hn
    simp only [List.getElem?_take, List.getElem?_drop, Nat.zero_lt_one, if_true] at h3
    rw [show k * 1 + 0 = k by omega] at h3
    exact h3
  refine ⟨fun k => if hk : k < 32 then UInt8.ofNat (Classical.choose (key k hk)).toNat else 0, hlen, fun i hi => ?_⟩
  have hs := Classical.choose_spec (key i hi)
  rw [hs.1]
  simp only [hi, dif_pos, bv]
  rw [u8_of_wf' hs.2]
set_option maxRecDepth 100000 in
/-- []ID. -/
theorem open_ids {W : World} {fuel : Nat} {cs : List Value} {d : DataW H} {p : List MemPlace} (hl : Light 24 d) (h : DataW.trod enc Tryd.prog W 0 (fun _ => true) true fuel 24 cs = some (d, p)) :
    ∃ (v : Value) (l : List D), cs = [v] ∧ RdI W (fun b => b < W.heap.size) v l := by
  rcases Go.Deep.open_slice Tryd.underlying24 h with ⟨rfl, hx⟩ | ⟨a, len, cap, m, n, D0, Pl, rfl, _, hle, hm, hmm, hx, hi⟩
  · exact ⟨_, [], rfl, RdI.nil _ _ _ _⟩
  · simp only [Prod.mk.injEq] at hx
    obtain ⟨rfl, rfl⟩ := hx
    simp only [if_true] at hmm
    subst hmm
    have hs := light_len Tryd.underlying24 hl
    rw [bytesId] at hs
    simp only [List.length_map, List.length_range] at hs
    have each : ∀ k, k < len → ∃ f : Nat → UInt8, ∀ i, i < 32 → W.cell? (a.add (32 * k + i)) = some (bv (f i)) := fun k hk => by
      obtain ⟨cs', hc, ht⟩ := hi k (by omega)
      rw [cellsId] at hc
      obtain ⟨f, hfl, hf⟩ := open_id ht
      obtain ⟨_, _, hat⟩ := World.cells?_some hc
      refine ⟨f, fun i hi' => ?_⟩
      have := hat i hi'
      rw [add_add', hf i hi'] at this
      rw [Nat.mul_comm]
      exact this
    have hlen : ((List.range len).map fun k => if hk : k < len then Classical.choose (each k hk) else dz).length = len := by rw [List.length_map, List.length_range]
    refine ⟨_, (List.range len).map fun k => if hk : k < len then Classical.choose (each k hk) else dz, rfl, RdI.here ⟨some a, _, by rw [hlen], by rw [hlen]; exact hle, by rw [hlen]; omega, fun h0 => ⟨a, rfl, trivial, fun k hk i hi' => ?_⟩⟩⟩
    rw [hlen] at hk
    have hsp := Classical.choose_spec (each k hk)
    have e : ((List.range len).map fun k => if hk : k < len then Classical.choose (each k hk) else dz).getD k dz = Classical.choose (each k hk) := by
      rw [List.getD_eq_getElem?_getD, List.getElem?_map, List.getElem?_range hk]
      simp [hk]
    rw [e]
    exact hsp i hi'
end
end Go.Proofs.YtlnapnbccojohaaDoor
namespace Go.Proofs.YtlnapnbccojohaaDoor
open Go Go.RowKit Go.ChangeShapes Go.WideShapes Go.ChangeAt TreeM

theorem cellsShown : Tryd.prog.cellsOf 69 = 3 := by kernel_rfl
theorem cellsIntE : Tryd.prog.cellsOf 3 = 1 := by kernel_rfl
theorem cellsIdsE : Tryd.prog.cellsOf 24 = 1 := by kernel_rfl
theorem cellsBytesE : Tryd.prog.cellsOf 50 = 1 := by kernel_rfl
section
variable {H : Type} {enc : TypeId × Value → H}
set_option maxRecDepth 100000 in
theorem open_shown {W : World} {b0 : Nat} {v : Value} {d : DataW H} {p : List MemPlace} (hv : Value.okWide Tryd.prog W .any b0 69 v) (hl : Light 69 d) (h : DataW.Trod enc Tryd.prog W 0 (fun _ => true) true 69 v d p) :
    ∃ (a : Int) (Ae : Option Addr) (ce : Nat) (entry : List UInt8) (pv : Value) (l : List D), v = .agg #[.int .i64 a, .slice Ae entry.length ce, pv] ∧ RdB W (fun b => b < W.heap.size) (.slice Ae entry.length ce) entry ∧ RdI W (fun b => b < W.heap.size) pv l := by
  obtain ⟨cs, rfl, hsz⟩ := okWide_struct Tryd.underlying69 hv
  rw [cellsShown] at hsz
  obtain ⟨fuel, hf⟩ := h
  obtain ⟨xs, n, _, hx, _, hlen, hg⟩ := DataW.trod_struct Tryd.underlying69 hf
  simp only [Prod.mk.injEq] at hx
  obtain ⟨rfl, rfl⟩ := hx
  have hxl : xs.length = 3 := hlen
  have get : ∀ j, j < 3 → ∃ y, xs[j]? = some y ∧ (xs.map (·.1))[j]? = some y.1 := fun j hj => ⟨_, List.getElem?_eq_getElem (by omega), by rw [List.getElem?_map, List.getElem?_eq_getElem (by omega)]; rfl⟩
  have one : ∀ (o : Nat) (x : Value), (cs.toList.drop o).take 1 = [x] → cs[o]? = some x := fun o x hx => by
    have h3 := congrArg (fun l : List Value => l[0]?) hx
    simp only [List.getElem?_take, List.getElem?_drop, Nat.zero_lt_one, if_true, Nat.add_zero, Array.getElem?_toList] at h3
    exact h3
  obtain ⟨y0, g0, k0⟩ := get 0 (by omega)
  obtain ⟨y1, g1, k1⟩ := get 1 (by omega)
  obtain ⟨y2, g2, k2⟩ := get 2 (by omega)
  have f0 : DataW.trod enc Tryd.prog W 0 (fun _ => true) true n 3 ((cs.toList.drop 0).take (Tryd.prog.cellsOf 3)) = some y0 := (hg 0 _ rfl).trans g0
  rw [cellsIntE] at f0
  have f1 : DataW.trod enc Tryd.prog W 0 (fun _ => true) true n 50 ((cs.toList.drop 1).take (Tryd.prog.cellsOf 50)) = some y1 := (hg 1 _ rfl).trans g1
  rw [cellsBytesE] at f1
  have f2 : DataW.trod enc Tryd.prog W 0 (fun _ => true) true n 24 ((cs.toList.drop 2).take (Tryd.prog.cellsOf 24)) = some y2 := (hg 2 _ rfl).trans g2
  rw [cellsIdsE] at f2
  obtain ⟨n0, e0, _, _⟩ := DataW.trod_int Tryd.underlying3 f0
  obtain ⟨Ae, ce, entry, e1, hre⟩ := open_bytes (p := y1.2) (light_field Tryd.underlying69 hl (j := 1) rfl k1) f1
  obtain ⟨v2, l, e2, hr⟩ := open_ids (p := y2.2) (light_field Tryd.underlying69 hl (j := 2) rfl k2) f2
  refine ⟨n0, Ae, ce, entry, v2, l, ?_, hre, hr⟩
  have c0 := one 0 _ e0
  have c1 := one 1 _ e1
  have c2 := one 2 _ e2
  congr 1
  refine Array.ext_getElem? fun i => ?_
  by_cases h3 : i < 3
  · have : i = 0 ∨ i = 1 ∨ i = 2 := by omega
    rcases this with rfl | rfl | rfl
    · exact c0
    · exact c1
    · exact c2
  · rw [Array.getElem?_eq_none (by omega), Array.getElem?_eq_none (by simp; omega)]
end
end Go.Proofs.YtlnapnbccojohaaDoor
