/-
  Arguments read as data, opened, at whatever depth: slices of bytes, of slices of bytes, of IDs, whole messages, within the form's own reach; and that an argument reads behind the call as it did where nothing old has turned. No condition of their own.
-/
import Derived.Test.YtkbdkeclbokhdaaDoorQ9
import Derived.Test.YtkbdkeclbokhdaaDoorRows
import Derived.Test.YtkbdkeclbokhdaaDoorPackStr
import Derived.Test.YtkbdkeclbokhdaaDoorPackCheck
import Derived.ProofKit
import Derived.OpenShut
import Derived.Deep.DeepHandedRow
import Derived.LaidMore
import Derived.Deep.Slices
import Derived.SizedLaws
import Derived.WideKeyArgs
namespace Go.Proofs.YtkbdkeclbokhdaaDoor
open Go Go.RowKit Go.ChangeShapes Go.WideShapes Go.ChangeAt PackMath

theorem cellsId : Tryd.prog.cellsOf 37 = 32 := by kernel_rfl
theorem bytesId : Tryd.prog.bytesOf 37 = 32 := by kernel_rfl
theorem cellsMsg : Tryd.prog.cellsOf 69 = 41 := by kernel_rfl
theorem cellsInt : Tryd.prog.cellsOf 3 = 1 := by kernel_rfl
theorem cellsIds : Tryd.prog.cellsOf 67 = 1 := by kernel_rfl
theorem cellsRows : Tryd.prog.cellsOf 57 = 1 := by kernel_rfl
section
variable {H : Type} {enc : TypeId × Value → H}
set_option maxRecDepth 100000 in
/-- An ID. -/
theorem open_id {W : World} {fuel : Nat} {cs : List Value} {x : DataW H × List MemPlace} (h : DataW.trod enc Tryd.prog W 0 (fun _ => true) true fuel 37 cs = some x) : ∃ f : Nat → UInt8, cs.length = 32 ∧ ∀ i, i < 32 → cs[i]? = some (bv (f i)) := by
  obtain ⟨ys, m', _, _, hlen, hyl, hy⟩ := DataW.trod_array Tryd.underlying37 h
  rw [cellsId] at hlen
  have key : ∀ k, k < 32 → ∃ n : Int, cs[k]? = some (.int .u8 n) ∧ (Lit.int .u8 n).wf = true := fun k hk => by
    have h2 := hy k (by omega)
    rw [cells8, List.getElem?_eq_getElem (show k < ys.length by omega)] at h2
    obtain ⟨n, hn, _, hw⟩ := DataW.trod_int Tryd.underlying5 h2
    refine ⟨n, ?_, hw⟩
    have h3 := congrArg (fun l : List Value => l[0]?) hn
    simp only [List.getElem?_take, List.getElem?_drop, Nat.zero_lt_one, if_true] at h3
    rw [show k * 1 + 0 = k by omega] at h3
    exact h3
  refine ⟨fun k => if hk : k < 32 then UInt8.ofNat (Classical.choose (key k hk)).toNat else 0, hlen, fun i hi => ?_⟩
  have hs := Classical.choose_spec (key i hi)
  rw [hs.1]
  simp only [hi, dif_pos, bv]
  rw [u8_of_wf' hs.2]
set_option maxRecDepth 100000 in
/-- []ID. -/
theorem open_ids {W : World} {fuel : Nat} {cs : List Value} {d : DataW H} {p : List MemPlace} (hl : Light 67 d) (h : DataW.trod enc Tryd.prog W 0 (fun _ => true) true fuel 67 cs = some (d, p)) :
    ∃ (A : Option Addr) (c : Nat) (ps : List (Nat → UInt8)), cs = [.slice A ps.length c] ∧ ps.length ≤ 140737488351232 ∧ RdI W (fun b => b < W.heap.size) A ps := by
  rcases Go.Deep.open_slice Tryd.underlying67 h with ⟨rfl, hx⟩ | ⟨a, len, cap, m, n, D, Pl, rfl, _, hle, hm, hmm, hx, hi⟩
  · exact ⟨none, 0, [], rfl, by simp, fun k hk => by simp at hk⟩
  · simp only [Prod.mk.injEq] at hx
    obtain ⟨rfl, rfl⟩ := hx
    simp only [if_true] at hmm
    subst hmm
    have hs := light_len Tryd.underlying67 hl
    rw [bytesId] at hs
    simp only [List.length_map, List.length_range] at hs
    have each : ∀ k, k < len → ∃ f : Nat → UInt8, ∀ i, i < 32 → W.cell? (a.add (32 * k + i)) = some (bv (f i)) := fun k hk => by
      obtain ⟨cs', hc, ht⟩ := hi k (by omega)
      rw [cellsId] at hc
      obtain ⟨f, hfl, hf⟩ := open_id ht
      obtain ⟨_, _, hat⟩ := World.cells?_some hc
      refine ⟨f, fun i hi' => ?_⟩
      have := hat i hi'
      rw [add_add', hf i hi'] at this
      rw [Nat.mul_comm]
      exact this
    refine ⟨some a, _, (List.range len).map fun k => if hk : k < len then Classical.choose (each k hk) else fun _ => 0, by rw [List.length_map, List.length_range], by simp; omega, fun k hk => ?_⟩
    have hk' : k < len := by simpa using hk
    have hsp := Classical.choose_spec (each k hk')
    have e : ((List.range len).map fun k => if hk : k < len then Classical.choose (each k hk) else fun _ => 0).getD k (fun _ => 0) = Classical.choose (each k hk') := by
      rw [List.getD_eq_getElem?_getD, List.getElem?_map, List.getElem?_range hk']
      simp [hk']
    refine ⟨a, rfl, ?_, fun i hi' => by rw [e]; exact hsp i hi'⟩
    have := block_lt_of_cell (hsp 0 (by omega))
    rwa [block_add] at this
set_option maxRecDepth 100000 in
theorem open_i64 {W : World} {fuel : Nat} {cs : List Value} {x : DataW H × List MemPlace} (h : DataW.trod enc Tryd.prog W 0 (fun _ => true) true fuel 3 cs = some x) : ∃ n : Int, cs = [.int .i64 n] := by
  obtain ⟨n, hn, _, _⟩ := DataW.trod_int Tryd.underlying3 h
  exact ⟨n, hn⟩
end
section
variable {H : Type} {enc : TypeId × Value → H} {P : Program}
end
end Go.Proofs.YtkbdkeclbokhdaaDoor
