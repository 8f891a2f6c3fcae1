/-
  Arguments read as data, opened, at whatever depth: slices of bytes, of slices of bytes, of IDs, whole messages, within the form's own reach; and that an argument reads behind the call as it did where nothing old has turned. No condition of their own.
-/
import Derived.Test.YtekakelkjnhehaaRows
import Derived.Test.YtekakelkjnhehaaPackStr
import Derived.Test.YtekakelkjnhehaaPackCheck
import Derived.ProofKit
import Derived.OpenShut
import Derived.Deep.DeepHandedRow
import Derived.LaidMore
import Derived.Deep.Slices
import Derived.SizedLaws
import Derived.WideKeyArgs
namespace Go.Proofs.Ytekakelkjnhehaa
open Go Go.RowKit Go.ChangeShapes Go.WideShapes Go.ChangeAt PackMath

theorem own : ownKnob Try.prog.godebug = none := by kernel_rfl
theorem laidOut' : laidOutB Try.prog = true := by kernel_rfl
theorem bytes8 : Try.prog.bytesOf 5 = 1 := by kernel_rfl
theorem cells8 : Try.prog.cellsOf 5 = 1 := by kernel_rfl
theorem cellsS : Try.prog.cellsOf 32 = 1 := by kernel_rfl
theorem bytesS : Try.prog.bytesOf 32 = 24 := by kernel_rfl
theorem cellsId : Try.prog.cellsOf 31 = 32 := by kernel_rfl
theorem bytesId : Try.prog.bytesOf 31 = 32 := by kernel_rfl
theorem cellsMsg : Try.prog.cellsOf 36 = 41 := by kernel_rfl
theorem cellsInt : Try.prog.cellsOf 3 = 1 := by kernel_rfl
theorem cellsIds : Try.prog.cellsOf 33 = 1 := by kernel_rfl
theorem cellsRows : Try.prog.cellsOf 34 = 1 := by kernel_rfl
theorem u8_of_wf' {n : Int} (h : (Lit.int .u8 n).wf = true) : ((UInt8.ofNat n.toNat).toNat : Int) = n := by
  have hn : 0 ≤ n ∧ n < 256 := by
    have h' : (decide (0 ≤ n) && decide (n ≤ 255)) = true := h
    simp at h'
    omega
  rw [UInt8.toNat_ofNat']
  omega
theorem rdB_of_ints {W : World} {a : Addr} {len cap : Nat} {zs : List Int} (hl : len ≤ cap) (hz : zs.length = cap) (hreach : cap ≤ 140737488351232) (hcell : ∀ i, i < zs.length → W.cell? (a.add i) = some (.int .u8 (zs.getD i 0)))
    (hw : ∀ n ∈ zs, (Lit.int .u8 n).wf = true) : ∃ L : List UInt8, L.length = len ∧ RdB W (fun b => b < W.heap.size) (.slice (some a) len cap) L := by
  have hlen : ((zs.take len).map fun n => UInt8.ofNat n.toNat).length = len := by rw [List.length_map, List.length_take]; omega
  refine ⟨_, hlen, some a, cap, by rw [hlen], by rw [hlen]; exact hl, by rw [hlen]; omega, fun h0 => ⟨a, rfl, ?_, fun j hj => ?_⟩⟩
  · rw [hlen] at h0
    have := block_lt_of_cell (hcell 0 (by omega))
    rwa [block_add] at this
  · rw [hlen] at hj
    have hjz : j < zs.length := by omega
    rw [hcell j hjz]
    have e1 : zs.getD j 0 = zs[j] := by rw [List.getD_eq_getElem?_getD, List.getElem?_eq_getElem hjz]; rfl
    have e2 : ((zs.take len).map fun n => UInt8.ofNat n.toNat).getD j 0 = UInt8.ofNat zs[j].toNat := by
      rw [List.getD_eq_getElem?_getD, List.getElem?_map, List.getElem?_take, if_pos hj, List.getElem?_eq_getElem hjz]
      rfl
    rw [e1, e2, bv, u8_of_wf' (hw _ (List.getElem_mem hjz))]
theorem rdB_none (W : World) (ok : Nat → Prop) (c : Nat) : RdB W ok (.slice none 0 c) [] := ⟨none, c, rfl, Nat.zero_le _, by simp, fun h => by simp at h⟩

section
variable {H : Type} {enc : TypeId × Value → H}
/-- Within the reach. -/
def Light (t : TypeId) (d : DataW H) : Prop := ∀ n ∈ d.weights Try.prog t, n ≤ 140737488351232
theorem light_of {ts : List TypeId} {ds : List (DataW H)} (h : (DataW.weightsEach Try.prog ts ds).all (· ≤ reachBytes) = true) {j : Nat} {t : TypeId} {d : DataW H} (ht : ts[j]? = some t) (hd : ds[j]? = some d) : Light t d := fun n hn => by
  have := List.all_eq_true.1 h _ (DataW.weights_mem_each ht hd n hn)
  exact of_decide_eq_true this
theorem weightsAll_mem {P : Program} {e : TypeId} : ∀ {l : List (DataW H)} {d : DataW H}, d ∈ l → ∀ n ∈ d.weights P e, n ∈ DataW.weightsAll P e l
  | d' :: r, d, hd, n, hn => by
    simp only [DataW.weightsAll, List.mem_append]
    rcases List.mem_cons.1 hd with rfl | h
    · exact Or.inl hn
    · exact Or.inr (weightsAll_mem h n hn)
theorem light_field {t : TypeId} {fs : Array Field} {parts : List (DataW H)} (hu : Try.prog.underlying t = some (.struct fs)) (h : Light t (.agg parts)) {j : Nat} {f : Field} {d : DataW H} (hf : fs[j]? = some f) (hd : parts[j]? = some d) : Light f.type d := fun n hn => h n (by
  rw [DataW.weights, hu]
  exact DataW.weights_mem_each (j := j) (t := f.type) (by rw [List.getElem?_map, Array.getElem?_toList, hf]; rfl) hd n hn)
theorem light_elem {t e : TypeId} {elems spare : List (DataW H)} (hu : Try.prog.underlying t = some (.slice e)) (h : Light t (.slice elems spare)) {d : DataW H} (hd : d ∈ elems) : Light e d := fun n hn => h n (by
  rw [DataW.weights, hu]
  exact List.mem_cons_of_mem _ (List.mem_append_left _ (weightsAll_mem hd n hn)))
theorem light_len {t e : TypeId} {elems spare : List (DataW H)} (hu : Try.prog.underlying t = some (.slice e)) (h : Light t (.slice elems spare)) : (elems.length + spare.length) * Try.prog.bytesOf e ≤ 140737488351232 := h _ (by
  rw [DataW.weights, hu]
  exact List.mem_cons_self)
set_option maxRecDepth 100000 in
/-- []byte. -/
theorem open_bytes {W : World} {fuel : Nat} {cs : List Value} {d : DataW H} {p : List MemPlace} (hl : Light 32 d) (h : DataW.trod enc Try.prog W 0 (fun _ => true) true fuel 32 cs = some (d, p)) :
    ∃ (A : Option Addr) (c : Nat) (L : List UInt8), cs = [.slice A L.length c] ∧ RdB W (fun b => b < W.heap.size) (.slice A L.length c) L := by
  rcases open_ints Try.underlying32 Try.underlying5 cells8 h with ⟨rfl, hx⟩ | ⟨a, len', cap', zs, rfl, _, hle, hm, hz, hx, hcell, hwz⟩
  · exact ⟨none, 0, [], rfl, rdB_none _ _ _⟩
  · simp only [Prod.mk.injEq] at hx
    obtain ⟨rfl, rfl⟩ := hx
    simp only [if_true] at hz
    have hs := light_len Try.underlying32 hl
    rw [bytes8] at hs
    simp only [lits, List.length_map, List.length_take, List.length_drop] at hs
    obtain ⟨L, hL, hr⟩ := rdB_of_ints (W := W) (a := a) hle hz (by omega) hcell hwz
    subst hL
    exact ⟨_, _, L, rfl, hr⟩
theorem add_add' (a : Addr) (i j : Nat) : (a.add i).add j = a.add (i + j) := add_add a i j
set_option maxRecDepth 100000 in
/-- [][]byte. -/
theorem open_rows {W : World} {fuel : Nat} {cs : List Value} {d : DataW H} {p : List MemPlace} (hl : Light 34 d) (h : DataW.trod enc Try.prog W 0 (fun _ => true) true fuel 34 cs = some (d, p)) :
    ∃ (A : Option Addr) (c : Nat) (ps : List (List UInt8)), cs = [.slice A ps.length c] ∧ ps.length ≤ 140737488351232 ∧ RdP W (fun b => b < W.heap.size) A ps := by
  rcases Go.Deep.open_slice Try.underlying34 h with ⟨rfl, hx⟩ | ⟨a, len, cap, m, n, D, Pl, rfl, _, hle, hm, hmm, hx, hi⟩
  · exact ⟨none, 0, [], rfl, by simp, fun k hk => by simp at hk⟩
  · simp only [Prod.mk.injEq] at hx
    obtain ⟨rfl, rfl⟩ := hx
    simp only [if_true] at hmm
    subst hmm
    have hs := light_len Try.underlying34 hl
    rw [bytesS] at hs
    simp only [List.length_map, List.length_range] at hs
    have each : ∀ k, k < len → ∃ (A : Option Addr) (c : Nat) (L : List UInt8), W.cell? (a.add k) = some (.slice A L.length c) ∧ RdB W (fun b => b < W.heap.size) (.slice A L.length c) L := fun k hk => by
      obtain ⟨cs', hc, ht⟩ := hi k (by omega)
      rw [cellsS] at hc
      obtain ⟨A, c, L, rfl, hr⟩ := open_bytes (light_elem Try.underlying34 hl (List.mem_map.2 ⟨k, List.mem_range.2 hk, rfl⟩)) ht
      obtain ⟨_, _, hat⟩ := World.cells?_some hc
      have := hat 0 (by omega)
      rw [Nat.mul_one, add_add', Nat.add_zero] at this
      exact ⟨A, c, L, this, hr⟩
    refine ⟨some a, _, (List.range len).map fun k => if hk : k < len then Classical.choose (Classical.choose_spec (Classical.choose_spec (each k hk))) else [], by rw [List.length_map, List.length_range], by simp; omega, fun k hk => ?_⟩
    have hk' : k < len := by simpa using hk
    have hsp := Classical.choose_spec (Classical.choose_spec (Classical.choose_spec (each k hk')))
    refine ⟨a, _, rfl, ?_, hsp.1, ?_⟩
    · have := block_lt_of_cell hsp.1
      rwa [block_add] at this
    · have e : ((List.range len).map fun k => if hk : k < len then Classical.choose (Classical.choose_spec (Classical.choose_spec (each k hk))) else []).getD k [] = Classical.choose (Classical.choose_spec (Classical.choose_spec (each k hk'))) := by
        rw [List.getD_eq_getElem?_getD, List.getElem?_map, List.getElem?_range hk']
        simp [hk']
      rw [e]
      exact hsp.2
set_option maxRecDepth 100000 in
/-- An ID. -/
theorem open_id {W : World} {fuel : Nat} {cs : List Value} {x : DataW H × List MemPlace} (h : DataW.trod enc Try.prog W 0 (fun _ => true) true fuel 31 cs = some x) : ∃ f : Nat → UInt8, cs.length = 32 ∧ ∀ i, i < 32 → cs[i]? = some (bv (f i)) := by
  obtain ⟨ys, m', _, _, hlen, hyl, hy⟩ := DataW.trod_array Try.underlying31 h
  rw [cellsId] at hlen
  have key : ∀ k, k < 32 → ∃ n : Int, cs[k]? = some (.int .u8 n) ∧ (Lit.int .u8 n).wf = true := fun k hk => by
    have h2 := hy k (by omega)
    rw [cells8, List.getElem?_eq_getElem (show k < ys.length by omega)] at h2
    obtain ⟨n, hn, _, hw⟩ := DataW.trod_int Try.underlying5 h2
    refine ⟨n, ?_, hw⟩
    have h3 := congrArg (fun l : List Value => l[0]?) hn
    simp only [List.getElem?_take, List.getElem?_drop, Nat.zero_lt_one, if_true] at h3
    rw [show k * 1 + 0 = k by omega] at h3
    exact h3
  refine ⟨fun k => if hk : k < 32 then UInt8.ofNat (Classical.choose (key k hk)).toNat else 0, hlen, fun i hi => ?_⟩
  have hs := Classical.choose_spec (key i hi)
  rw [hs.1]
  simp only [hi, dif_pos, bv]
  rw [u8_of_wf' hs.2]
set_option maxRecDepth 100000 in
/-- []ID. -/
theorem open_ids {W : World} {fuel : Nat} {cs : List Value} {d : DataW H} {p : List MemPlace} (hl : Light 33 d) (h : DataW.trod enc Try.prog W 0 (fun _ => true) true fuel 33 cs = some (d, p)) :
    ∃ (A : Option Addr) (c : Nat) (ps : List (Nat → UInt8)), cs = [.slice A ps.length c] ∧ ps.length ≤ 140737488351232 ∧ RdI W (fun b => b < W.heap.size) A ps := by
  rcases Go.Deep.open_slice Try.underlying33 h with ⟨rfl, hx⟩ | ⟨a, len, cap, m, n, D, Pl, rfl, _, hle, hm, hmm, hx, hi⟩
  · exact ⟨none, 0, [], rfl, by simp, fun k hk => by simp at hk⟩
  · simp only [Prod.mk.injEq] at hx
    obtain ⟨rfl, rfl⟩ := hx
    simp only [if_true] at hmm
    subst hmm
    have hs := light_len Try.underlying33 hl
    rw [bytesId] at hs
    simp only [List.length_map, List.length_range] at hs
    have each : ∀ k, k < len → ∃ f : Nat → UInt8, ∀ i, i < 32 → W.cell? (a.add (32 * k + i)) = some (bv (f i)) := fun k hk => by
      obtain ⟨cs', hc, ht⟩ := hi k (by omega)
      rw [cellsId] at hc
      obtain ⟨f, hfl, hf⟩ := open_id ht
      obtain ⟨_, _, hat⟩ := World.cells?_some hc
      refine ⟨f, fun i hi' => ?_⟩
      have := hat i hi'
      rw [add_add', hf i hi'] at this
      rw [Nat.mul_comm]
      exact this
    refine ⟨some a, _, (List.range len).map fun k => if hk : k < len then Classical.choose (each k hk) else fun _ => 0, by rw [List.length_map, List.length_range], by simp; omega, fun k hk => ?_⟩
    have hk' : k < len := by simpa using hk
    have hsp := Classical.choose_spec (each k hk')
    have e : ((List.range len).map fun k => if hk : k < len then Classical.choose (each k hk) else fun _ => 0).getD k (fun _ => 0) = Classical.choose (each k hk') := by
      rw [List.getD_eq_getElem?_getD, List.getElem?_map, List.getElem?_range hk']
      simp [hk']
    refine ⟨a, rfl, ?_, fun i hi' => by rw [e]; exact hsp i hi'⟩
    have := block_lt_of_cell (hsp 0 (by omega))
    rwa [block_add] at this
set_option maxRecDepth 100000 in
theorem open_i64 {W : World} {fuel : Nat} {cs : List Value} {x : DataW H × List MemPlace} (h : DataW.trod enc Try.prog W 0 (fun _ => true) true fuel 3 cs = some x) : ∃ n : Int, cs = [.int .i64 n] := by
  obtain ⟨n, hn, _, _⟩ := DataW.trod_int Try.underlying3 h
  exact ⟨n, hn⟩
/-- An argument reads as it did. -/
theorem stays {t : TypeId} (hr : Try.prog.readableRec t = true) (hrow : t < Try.prog.types.size) {W W' : World} {v : Value} {d : DataW H} {ps : List MemPlace} (h : DataW.Trod enc Try.prog W 0 (fun _ => true) true t v d ps) (hb : Below W.heap.size W W')
    (hlt : ∀ p ∈ ps, p.block < W.heap.size) {sp : Nat → Bool} (hs : ∀ p ∈ ps, sp p.block = true) : DataW.Trod enc Try.prog W' 0 sp true t v d ps :=
  WideElems.Trod_stays laidOut' hr hrow h (fun x hx => hb.same (hlt x hx)) hs
end
section
variable {H : Type} {enc : TypeId × Value → H} {P : Program}
/-- The guide's 'post_of_below' (howto/extra-small.md): nothing that lay below the heap's size has turned. -/
theorem post_of_below {f : Func} {s : ChangeSpec} {apart fresh handsOn again : Bool} {W W' : World} {args : Array Value} {v : Value} {ds gs : List (DataW H)} {before pa pv : List MemPlace}
    (hW : DataW.Whole enc P f.params.toList s.vars apart W args.toList ds gs before)
    (hres : ∀ (b : Nat) (sp : Nat → Bool) (hd : Bool), DataW.TrodAll enc P W' b sp hd f.resultTypes.toList (v.resultList f.resultTypes.size) (s.fn H (ds ++ gs)).results [])
    (hargs : ∀ sp : Nat → Bool, (∀ p ∈ before, sp p.block = true) → DataW.TrodAll enc P W' 0 sp true f.params.toList args.toList (s.fn H (ds ++ gs)).args pa)
    (hvars : ∀ sp : Nat → Bool, (∀ p ∈ before, sp p.block = true) → DataW.TrodVars enc P W' sp s.vars (s.fn H (ds ++ gs)).vars pv)
    (hps : before = pa ++ pv) (hb : Below W.heap.size W W')
    (hok : ∀ (j : Nat) (t : TypeId) (r : Value), f.resultTypes[j]? = some t → (v.resultList f.resultTypes.size)[j]? = some r → Value.okWide P W' .any 0 t r) :
    s.post enc P f apart fresh handsOn again W args v W' := by
  have hlt : ∀ p ∈ before, p.block < W.heap.size := fun p hp => hW.lt p hp
  have hold : ∀ p ∈ before, (fun b => decide (b < W.heap.size)) p.block = true := fun p hp => by simpa using hlt p hp
  refine ⟨ds, gs, before, [], pa, pv, hW, hres _ _ _, hargs _ hold, hvars _ hold, World.keptBut_mono (fun p hp => ⟨hp, ?_⟩) (hb.frame (· ∈ before)), fun _ => ?_⟩
  · rw [hps, List.mem_append] at hp
    exact Or.inr hp
  · obtain ⟨_, _, _, _, _, hz, hn⟩ := hW
    refine ⟨hok, _, _, ([] ++ pa) ++ pv, ⟨[] ++ pa, pv, trodAll_append (hargs _ (fun _ _ => rfl)) (hres _ _ _), hvars _ (fun _ _ => rfl), rfl, ?_, ?_⟩, ?_⟩
    · intro b off hp
      have hin : MemPlace.cell b off ∈ before := by rw [hps]; simpa using hp
      rw [hb.frozen (hlt _ hin)]
      exact hz b off hin
    · intro ha
      have := hn ha
      rw [hps] at this
      simpa using this
    · intro p hp _
      rw [hps]
      simpa using hp
end
end Go.Proofs.Ytekakelkjnhehaa
