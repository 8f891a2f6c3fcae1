/-
  Arguments read as data, opened: slices of bytes, slices of slices of bytes, within the form's own reach; and that an argument reads behind the call as it did where nothing old has turned. No condition of their own.
-/
import Derived.Test.YtghjdelijmlemaaDoorLaid
import Derived.Test.YtghjdelijmlemaaDoorIter
import Derived.Test.YtghjdelijmlemaaDoorStr
import Derived.Deep.Matrix
import Derived.SizedLaws
import Derived.WideKeyArgs
namespace Go.Proofs.YtghjdelijmlemaaDoor
open Go Go.RowKit Go.ChangeShapes Go.WideShapes Go.ChangeAt

theorem laidOut' : laidOutB Tryd.prog = true := by kernel_rfl
theorem reach_eq' : reachBytes = 140737488351232 := rfl
theorem bytes8 : Tryd.prog.bytesOf 5 = 1 := by kernel_rfl
theorem cells8 : Tryd.prog.cellsOf 5 = 1 := by kernel_rfl
theorem u8_of_wf' {n : Int} (h : (Lit.int .u8 n).wf = true) : ((UInt8.ofNat n.toNat).toNat : Int) = n := by
  have hn : 0 ≤ n ∧ n < 256 := by
    have h' : (decide (0 ≤ n) && decide (n ≤ 255)) = true := h
    simp at h'
    omega
  rw [UInt8.toNat_ofNat']
  omega
theorem rdB_of_ints {W : World} {a : Addr} {len cap : Nat} {zs : List Int} (hl : len ≤ cap) (hz : zs.length = cap) (hreach : cap ≤ 140737488351232) (hcell : ∀ i, i < zs.length → W.cell? (a.add i) = some (.int .u8 (zs.getD i 0)))
    (hw : ∀ n ∈ zs, (Lit.int .u8 n).wf = true) : ∃ L : List UInt8, L.length = len ∧ RdB W (fun b => b < W.heap.size) (.slice (some a) len cap) L := by
  have hlen : ((zs.take len).map fun n => UInt8.ofNat n.toNat).length = len := by rw [List.length_map, List.length_take]; omega
  refine ⟨_, hlen, some a, cap, by rw [hlen], by rw [hlen]; exact hl, by rw [hlen]; omega, fun h0 => ⟨a, rfl, ?_, fun j hj => ?_⟩⟩
  · rw [hlen] at h0
    have := block_lt_of_cell (hcell 0 (by omega))
    rwa [block_add] at this
  · rw [hlen] at hj
    have hjz : j < zs.length := by omega
    rw [hcell j hjz]
    have e1 : zs.getD j 0 = zs[j] := by rw [List.getD_eq_getElem?_getD, List.getElem?_eq_getElem hjz]; rfl
    have e2 : ((zs.take len).map fun n => UInt8.ofNat n.toNat).getD j 0 = UInt8.ofNat zs[j].toNat := by
      rw [List.getD_eq_getElem?_getD, List.getElem?_map, List.getElem?_take, if_pos hj, List.getElem?_eq_getElem hjz]
      rfl
    rw [e1, e2, bv, u8_of_wf' (hw _ (List.getElem_mem hjz))]
theorem rdB_none (W : World) (ok : Nat → Prop) (c : Nat) : RdB W ok (.slice none 0 c) [] := ⟨none, c, rfl, Nat.zero_le _, by simp, fun h => by simp at h⟩

section
variable {H : Type} {enc : TypeId × Value → H}
/-- []byte. -/
theorem open_bytes {W : World} {a0 : Option Addr} {len cap : Nat} {d : DataW H} {p : List MemPlace} {ts : List TypeId} {ds : List (DataW H)} {j : Nat} (ht : ts[j]? = some 24) (hd : ds[j]? = some d)
    (hwt : (DataW.weightsEach Tryd.prog ts ds).all (· ≤ reachBytes) = true) (h : DataW.Trod enc Tryd.prog W 0 (fun _ => true) true 24 (.slice a0 len cap) d p) :
    ∃ L : List UInt8, L.length = len ∧ RdB W (fun b => b < W.heap.size) (.slice a0 len cap) L := by
  obtain ⟨fuel, hf⟩ := h
  rcases open_ints Tryd.underlying24 Tryd.underlying5 cells8 hf with ⟨hcs, hx⟩ | ⟨a, len', cap', zs, hcs, _, hl, hm, hz, hx, hcell, hwz⟩
  · simp [Value.cells] at hcs
    obtain ⟨rfl, rfl, rfl⟩ := hcs
    exact ⟨[], rfl, rdB_none _ _ _⟩
  · simp [Value.cells] at hcs
    obtain ⟨rfl, rfl, rfl⟩ := hcs
    simp only [Prod.mk.injEq] at hx
    obtain ⟨rfl, rfl⟩ := hx
    simp only [if_true] at hz
    have hs := sized_slice hwt ht hd Tryd.underlying24
    rw [bytes8, reach_eq'] at hs
    simp only [lits, List.length_map, List.length_take, List.length_drop] at hs
    exact rdB_of_ints hl hz (by omega) hcell hwz
theorem weightsAll_mem {P : Program} {e : TypeId} : ∀ {l : List (DataW H)} {d : DataW H}, d ∈ l → ∀ n ∈ d.weights P e, n ∈ DataW.weightsAll P e l
  | d' :: r, d, hd, n, hn => by
    simp only [DataW.weightsAll, List.mem_append]
    rcases List.mem_cons.1 hd with rfl | h
    · exact Or.inl hn
    · exact Or.inr (weightsAll_mem h n hn)
theorem sized_inner {P : Program} {ts : List TypeId} {ds : List (DataW H)} (h : (DataW.weightsEach P ts ds).all (· ≤ reachBytes) = true) {j : Nat} {t e q : TypeId} {elems spare e' sp' : List (DataW H)}
    (ht : ts[j]? = some t) (hd : ds[j]? = some (.slice elems spare)) (hu : P.underlying t = some (.slice e)) (hu2 : P.underlying e = some (.slice q)) (hx : DataW.slice e' sp' ∈ elems) : (e'.length + sp'.length) * P.bytesOf q ≤ reachBytes := by
  refine of_decide_eq_true (List.all_eq_true.1 h _ (DataW.weights_mem_each ht hd _ ?_))
  simp only [DataW.weights, hu, List.mem_cons, List.mem_append]
  exact Or.inr (Or.inl (weightsAll_mem hx _ (by simp [DataW.weights, hu2])))
theorem cells24 : Tryd.prog.cellsOf 24 = 1 := by kernel_rfl
theorem bytes24 : Tryd.prog.bytesOf 24 = 24 := by kernel_rfl
/-- [][]byte. -/
theorem open_rows {W : World} {a0 : Option Addr} {len cap : Nat} {d : DataW H} {p : List MemPlace} {ts : List TypeId} {ds : List (DataW H)} {j : Nat} (ht : ts[j]? = some 22) (hd : ds[j]? = some d)
    (hwt : (DataW.weightsEach Tryd.prog ts ds).all (· ≤ reachBytes) = true) (h : DataW.Trod enc Tryd.prog W 0 (fun _ => true) true 22 (.slice a0 len cap) d p) :
    ∃ ps : List (List UInt8), ps.length = len ∧ len ≤ 140737488351232 ∧ RdP W (fun b => b < W.heap.size) a0 ps := by
  obtain ⟨fuel, hf⟩ := h
  rcases Go.Deep.open_int_rows Tryd.underlying22 Tryd.underlying24 Tryd.underlying5 cells24 cells8 hf with ⟨hcs, hx⟩ | ⟨a, len', cap', A, L, C, Z, hcs, _, hl, hm, hx, hrows⟩
  · simp [Value.cells] at hcs
    obtain ⟨rfl, rfl, rfl⟩ := hcs
    exact ⟨[], rfl, by omega, fun k hk => by simp at hk⟩
  · simp [Value.cells] at hcs
    obtain ⟨rfl, rfl, rfl⟩ := hcs
    simp only [Prod.mk.injEq] at hx
    obtain ⟨rfl, rfl⟩ := hx
    have hs := sized_slice hwt ht hd Tryd.underlying22
    rw [bytes24, reach_eq'] at hs
    simp only [List.length_map, List.length_range] at hs
    have each : ∀ r, r < len → ∃ M : List UInt8, RdB W (fun b => b < W.heap.size) (.slice (A r) (L r) (C r)) M := fun r hr => by
      obtain ⟨_, h1, h2, h3, h4, h5, h6⟩ := hrows r (by omega)
      cases hA : A r with
      | none =>
        have hC := h5 hA
        have hL : L r = 0 := by omega
        rw [hL, hC]
        exact ⟨[], rdB_none _ _ _⟩
      | some a' =>
        have hin := sized_inner hwt ht hd Tryd.underlying22 Tryd.underlying24 (e' := lits .u8 ((Z r).take (L r))) (sp' := lits .u8 ((Z r).drop (L r))) (List.mem_map.2 ⟨r, List.mem_range.2 hr, by simp [Go.Deep.intRow, hA]⟩)
        rw [bytes8, reach_eq'] at hin
        simp only [lits, List.length_map, List.length_take, List.length_drop] at hin
        obtain ⟨M, _, hM⟩ := rdB_of_ints (W := W) (a := a') h1 h3 (by omega) (fun i hi => (h6 a' hA).2 i (by omega)) h4
        exact ⟨M, hM⟩
    refine ⟨(List.range len).map fun r => if hr : r < len then Classical.choose (each r hr) else [], by simp, by omega, fun k hk => ?_⟩
    have hk' : k < len := by simpa using hk
    obtain ⟨h0, _⟩ := hrows k (by omega)
    refine ⟨a, _, rfl, ?_, h0, ?_⟩
    · have := block_lt_of_cell h0
      rwa [block_add] at this
    · have e : ((List.range len).map fun r => if hr : r < len then Classical.choose (each r hr) else []).getD k [] = Classical.choose (each k hk') := by
        rw [List.getD_eq_getElem?_getD, List.getElem?_map, List.getElem?_range hk']
        simp [hk']
      rw [e]
      exact Classical.choose_spec (each k hk')
/-- An argument reads as it did. -/
theorem stays {t : TypeId} (hr : Tryd.prog.readableRec t = true) (hrow : t < Tryd.prog.types.size) {W W' : World} {v : Value} {d : DataW H} {ps : List MemPlace} (h : DataW.Trod enc Tryd.prog W 0 (fun _ => true) true t v d ps) (hb : Below W.heap.size W W')
    (hlt : ∀ p ∈ ps, p.block < W.heap.size) {sp : Nat → Bool} (hs : ∀ p ∈ ps, sp p.block = true) : DataW.Trod enc Tryd.prog W' 0 sp true t v d ps :=
  WideElems.Trod_stays laidOut' hr hrow h (fun x hx => hb.same (hlt x hx)) hs
end
end Go.Proofs.YtghjdelijmlemaaDoor
