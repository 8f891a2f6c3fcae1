/-
  Two numbers in an array as an argument. No condition.
-/
import Derived.Test.YtdfgffmefonelaaDoorPrfArgsW
namespace Go.Proofs.YtdfgffmefonelaaDoor
open Go Go.RowKit Go.ChangeShapes Go.WideShapes Go.ChangeAt TreeM

section
variable {H : Type} {enc : TypeId × Value → H}
set_option maxRecDepth 100000 in
theorem open_pair {W : World} {b0 : Nat} {v : Value} {d : DataW H} {p : List MemPlace} (hv : Value.okWide Tryd.prog W .any b0 34 v) (h : DataW.Trod enc Tryd.prog W 0 (fun _ => true) true 34 v d p) :
    ∃ a b : Int, v = .agg #[.int .i64 a, .int .i64 b] := by
  obtain ⟨cs, rfl⟩ : ∃ xs : Array Value, v = .agg xs := by
    simp only [Value.okWide, Tryd.underlying34] at hv
    obtain ⟨cs, h1, _⟩ := hv
    exact ⟨cs, h1⟩
  obtain ⟨fuel, hf⟩ := h
  obtain ⟨ys, m', _, _, hlen, hyl, hy⟩ := DataW.trod_array Tryd.underlying34 hf
  have h2 : Tryd.prog.cellsOf 34 = 2 := by kernel_rfl
  rw [h2] at hlen
  have key : ∀ k, k < 2 → ∃ n : Int, (Value.agg cs).cells.toList[k]? = some (.int .i64 n) := fun k hk => by
    have h2 := hy k (by omega)
    rw [cellsInt', List.getElem?_eq_getElem (show k < ys.length by omega)] at h2
    obtain ⟨n, hn, _⟩ := open_i64' h2
    refine ⟨n, ?_⟩
    have h3 := congrArg (fun l : List Value => l[0]?) hn
    simp only [List.getElem?_take, List.getElem?_drop, Nat.zero_lt_one, if_true] at h3
    rw [show k * 1 + 0 = k by omega] at h3
    exact h3
  obtain ⟨a, ha⟩ := key 0 (by omega)
  obtain ⟨b, hb⟩ := key 1 (by omega)
  refine ⟨a, b, ?_⟩
  have e : (Value.agg cs).cells = cs := rfl
  rw [e] at hlen ha hb
  have hl : cs.toList = [.int .i64 a, .int .i64 b] := by
    match hcs : cs.toList, hlen with
    | [x, y], _ =>
      rw [hcs] at ha hb
      simp at ha hb
      rw [ha, hb]
  rw [← Array.toArray_toList (xs := cs), hl]
end
end Go.Proofs.YtdfgffmefonelaaDoor
