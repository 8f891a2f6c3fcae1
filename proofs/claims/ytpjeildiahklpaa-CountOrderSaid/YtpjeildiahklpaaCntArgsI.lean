/-
  Arguments of the count's laws, opened: IDs, slices of IDs, two of these. No condition.
-/
import Derived.Test.YtpjeildiahklpaaCntArgs
import Derived.Test.YtpjeildiahklpaaCntRow
namespace Go.Proofs.Ytpjeildiahklpaa
open Go Go.RowKit Go.ChangeShapes Go.WideShapes Go.ChangeAt

theorem cellsId : Try.prog.cellsOf 24 = 32 := by kernel_rfl
theorem bytesId : Try.prog.bytesOf 24 = 32 := by kernel_rfl
theorem cellsIds : Try.prog.cellsOf 49 = 1 := by kernel_rfl
section
variable {H : Type} {enc : TypeId × Value → H}
theorem open_idl {W : World} {fuel : Nat} {cs : List Value} {x : DataW H × List MemPlace} (h : DataW.trod enc Try.prog W 0 (fun _ => true) true fuel 24 cs = some x) : ∃ l : List UInt8, IdOk l ∧ cs.length = 32 ∧ ∀ i, i < 32 → cs[i]? = some (Extern.Stop.cell (l.getD i 0)) := by
  obtain ⟨ys, m', _, _, hlen, hyl, hy⟩ := DataW.trod_array Try.underlying24 h
  rw [cellsId] at hlen
  have key : ∀ k, k < 32 → ∃ n : Int, cs[k]? = some (.int .u8 n) ∧ (Lit.int .u8 n).wf = true := fun k hk => by
    have h2 := hy k (by omega)
    rw [cells8, List.getElem?_eq_getElem (show k < ys.length by omega)] at h2
    obtain ⟨n, hn, _, hw⟩ := DataW.trod_int Try.underlying5 h2
    refine ⟨n, ?_, hw⟩
    have h3 := congrArg (fun l : List Value => l[0]?) hn
    simp only [List.getElem?_take, List.getElem?_drop, Nat.zero_lt_one, if_true] at h3
    rw [show k * 1 + 0 = k by omega] at h3
    exact h3
  refine ⟨(List.range 32).map fun k => if hk : k < 32 then UInt8.ofNat (Classical.choose (key k hk)).toNat else 0, by unfold IdOk; rw [List.length_map, List.length_range], hlen, fun i hi => ?_⟩
  have hs := Classical.choose_spec (key i hi)
  rw [hs.1, List.getD_eq_getElem?_getD, List.getElem?_map, List.getElem?_range hi]
  simp only [Option.map_some, Option.getD_some, hi, dif_pos]
  exact congrArg (fun z => some (Value.int .u8 z)) (u8_of_wf' hs.2).symm
set_option maxRecDepth 100000 in
/-- []ID. -/
theorem open_ids {W : World} {fuel : Nat} {cs : List Value} {d : DataW H} {p : List MemPlace} (hl : Light 49 d) (h : DataW.trod enc Try.prog W 0 (fun _ => true) true fuel 49 cs = some (d, p)) :
    ∃ (v : Value) (l : List (List UInt8)), cs = [v] ∧ RdL W W.heap.size v l := by
  rcases Go.Deep.open_slice Try.underlying49 h with ⟨rfl, hx⟩ | ⟨a, len, cap, m, n, D0, Pl, rfl, _, hle, hm, hmm, hx, hi⟩
  · exact ⟨_, [], rfl, by simp, none, 0, rfl, Nat.le_refl _, by simp, fun h => by simp at h⟩
  · simp only [Prod.mk.injEq] at hx
    obtain ⟨rfl, rfl⟩ := hx
    simp only [if_true] at hmm
    subst hmm
    have hs := light_len Try.underlying49 hl
    rw [bytesId] at hs
    simp only [List.length_map, List.length_range] at hs
    have each : ∀ k, k < len → ∃ l : List UInt8, IdOk l ∧ ∀ i, i < 32 → W.cell? (a.add (32 * k + i)) = some (Extern.Stop.cell (l.getD i 0)) := fun k hk => by
      obtain ⟨cs', hc, ht⟩ := hi k (by omega)
      rw [cellsId] at hc
      obtain ⟨l, hok, hfl, hf⟩ := open_idl ht
      obtain ⟨_, _, hat⟩ := World.cells?_some hc
      refine ⟨l, hok, fun i hi' => ?_⟩
      have := hat i hi'
      rw [add_add', hf i hi'] at this
      rw [Nat.mul_comm]
      exact this
    have hlen : ((List.range len).map fun k => if hk : k < len then Classical.choose (each k hk) else []).length = len := by rw [List.length_map, List.length_range]
    refine ⟨_, (List.range len).map fun k => if hk : k < len then Classical.choose (each k hk) else [], rfl, fun x hx => ?_, some a, _, by rw [hlen], by rw [hlen]; exact hle, by rw [hlen]; omega, fun h0 => ⟨a, rfl, ?_, fun k hk i hi' => ?_⟩⟩
    · obtain ⟨k, hk, rfl⟩ := List.mem_map.1 hx
      have hk' := List.mem_range.1 hk
      simp only [hk', dif_pos]
      exact (Classical.choose_spec (each k hk')).1
    · rw [hlen] at h0
      have := block_lt_of_cell ((Classical.choose_spec (each 0 h0)).2 0 (by omega))
      rwa [block_add] at this
    · rw [hlen] at hk
      have hsp := (Classical.choose_spec (each k hk)).2
      have e : ((List.range len).map fun k => if hk : k < len then Classical.choose (each k hk) else []).getD k [] = Classical.choose (each k hk) := by
        rw [List.getD_eq_getElem?_getD, List.getElem?_map, List.getElem?_range hk]
        simp [hk]
      rw [e]
      exact hsp i hi'
set_option maxRecDepth 100000 in
/-- [2][]ID. -/
theorem open_two {W : World} {b0 : Nat} {v : Value} {d : DataW H} {p : List MemPlace} (hv : Value.okWide Try.prog W .any b0 50 v) (hl : Light 50 d) (h : DataW.Trod enc Try.prog W 0 (fun _ => true) true 50 v d p) :
    ∃ (v1 v2 : Value) (l1 l2 : List (List UInt8)), v = .agg #[v1, v2] ∧ RdL W W.heap.size v1 l1 ∧ RdL W W.heap.size v2 l2 := by
  obtain ⟨cs, rfl⟩ : ∃ xs : Array Value, v = .agg xs := by
    simp only [Value.okWide, Try.underlying50] at hv
    obtain ⟨cs, h1, _⟩ := hv
    exact ⟨cs, h1⟩
  obtain ⟨fuel, hf⟩ := h
  obtain ⟨ys, m', _, hd, hlen, hyl, hy⟩ := DataW.trod_array Try.underlying50 hf
  have h2 : Try.prog.cellsOf 50 = 2 := by kernel_rfl
  rw [h2] at hlen
  simp only [Prod.mk.injEq] at hd
  obtain ⟨rfl, rfl⟩ := hd
  have hle : ∀ y ∈ ys, Light 49 y.1 := fun y hy n hn => hl n (by
    rw [DataW.weights, Try.underlying50]
    exact weightsAll_mem (List.mem_map.2 ⟨y, hy, rfl⟩) n hn)
  have key : ∀ k, k < 2 → ∃ (v : Value) (l : List (List UInt8)), (Value.agg cs).cells.toList[k]? = some v ∧ RdL W W.heap.size v l := fun k hk => by
    have h2 := hy k (by omega)
    rw [cellsIds, List.getElem?_eq_getElem (show k < ys.length by omega)] at h2
    obtain ⟨v, l, hv, hr⟩ := open_ids (hle _ (List.getElem_mem (show k < ys.length by omega))) h2
    refine ⟨v, l, ?_, hr⟩
    have h3 := congrArg (fun l : List Value => l[0]?) hv
    simp only [List.getElem?_take, List.getElem?_drop, Nat.zero_lt_one, if_true] at h3
    rw [show k * 1 + 0 = k by omega] at h3
    exact h3
  obtain ⟨a, l1, ha, r1⟩ := key 0 (by omega)
  obtain ⟨b, l2, hb, r2⟩ := key 1 (by omega)
  refine ⟨a, b, l1, l2, ?_, r1, r2⟩
  have e : (Value.agg cs).cells = cs := rfl
  rw [e] at hlen ha hb
  have hl : cs.toList = [a, b] := by
    match hcs : cs.toList, hlen with
    | [x, y], _ =>
      rw [hcs] at ha hb
      simp at ha hb
      rw [ha, hb]
  rw [← Array.toArray_toList (xs := cs), hl]
end
end Go.Proofs.Ytpjeildiahklpaa
