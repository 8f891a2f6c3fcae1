/-
  Two sums handed in as one array, opened: sixty-four bytes. No condition.
-/
import Derived.Test.YtghjdelijmlemaaDoorArgs
namespace Go.Proofs.YtghjdelijmlemaaDoor
open Go Go.RowKit Go.ChangeShapes Go.WideShapes Go.ChangeAt

theorem cellsId : Tryd.prog.cellsOf 26 = 32 := by kernel_rfl
theorem cellsTwo : Tryd.prog.cellsOf 36 = 64 := by kernel_rfl
theorem okWide_two {W : World} {base : Nat} {v : Value} (h : Value.okWide Tryd.prog W .any base 36 v) : ∃ cs, v = .agg cs := by
  simp only [Value.okWide, Tryd.underlying36] at h
  obtain ⟨cs, h1, _⟩ := h
  exact ⟨cs, h1⟩
section
variable {H : Type} {enc : TypeId × Value → H}
theorem open_two {W : World} {cs : Array Value} {d : DataW H} {p : List MemPlace} (h : DataW.Trod enc Tryd.prog W 0 (fun _ => true) true 36 (.agg cs) d p) : ∃ t : Nat → UInt8, cs = arr 64 fun i => bv (t i) := by
  obtain ⟨fuel, hf⟩ := h
  obtain ⟨xs, m, _, _, hlen, hxl, hx⟩ := DataW.trod_array Tryd.underlying36 hf
  rw [cellsTwo] at hlen
  simp only [Value.cells, Array.length_toList] at hlen
  have key : ∀ k, k < 64 → ∃ n : Int, cs[k]? = some (.int .u8 n) ∧ (Lit.int .u8 n).wf = true := fun k hk => by
    have h1 := hx (k / 32) (by omega)
    rw [cellsId, List.getElem?_eq_getElem (show k / 32 < xs.length by omega)] at h1
    obtain ⟨ys, m', _, _, _, hyl, hy⟩ := DataW.trod_array Tryd.underlying26 h1
    have h2 := hy (k % 32) (by omega)
    rw [cells8, List.getElem?_eq_getElem (show k % 32 < ys.length by omega)] at h2
    obtain ⟨n, hn, _, hw⟩ := DataW.trod_int Tryd.underlying5 h2
    refine ⟨n, ?_, hw⟩
    have h3 := congrArg (fun l : List Value => l[0]?) hn
    simp only [List.getElem?_take, List.getElem?_drop, Nat.zero_lt_one, if_true, Value.cells, Array.getElem?_toList] at h3
    rw [if_pos (by omega)] at h3
    have e : k / 32 * 32 + (k % 32 * 1 + 0) = k := by omega
    rw [e] at h3
    exact h3
  refine ⟨fun k => if hk : k < 64 then UInt8.ofNat (Classical.choose (key k hk)).toNat else 0, arr_of 64 cs _ (by simpa using hlen) fun i hi => ?_⟩
  have hs := Classical.choose_spec (key i hi)
  rw [hs.1]
  simp only [hi, dif_pos, bv]
  rw [u8_of_wf' hs.2]
end
end Go.Proofs.YtghjdelijmlemaaDoor
