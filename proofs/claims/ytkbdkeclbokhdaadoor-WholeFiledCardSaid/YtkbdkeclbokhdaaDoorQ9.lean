/-
  Arguments read as data, opened: numbers, slices of bytes, within the form's own reach; and that an argument reads behind the call as it did where nothing old has turned. No condition of their own.
  What the rows' list of variables gives: the two tables of package sum hold their numbers; and a world that fits, for the witness. No condition of its own.
  Arguments opened: slices of slices of bytes. No condition.
  A great frame as a function from places to values, for a loop's relation: no letters for what nobody reads. No condition.
-/
import Derived.Test.YtkbdkeclbokhdaaDoorRows
import Derived.Test.YtkbdkeclbokhdaaDoorRd
import Derived.ProofKit
import Derived.OpenShut
import Derived.Deep.DeepHandedRow
import Derived.LaidMore
import Derived.Deep.Slices
import Derived.SizedLaws
import Derived.WideKeyArgs
import Derived.Test.YtkbdkeclbokhdaaDoorCards
import Derived.Test.YtkbdkeclbokhdaaDoorTie
import Derived.Test.YtkbdkeclbokhdaaDoorOfT
import Derived.Lib.LaidTab
import Derived.Test.YtkbdkeclbokhdaaDoorQ1
import Derived.WalkKit
import Derived.Deep.LoopGhost
import Derived.Laws.AppendOwn
namespace Go.Proofs.YtkbdkeclbokhdaaDoor
open Go Go.RowKit Go.ChangeShapes Go.WideShapes Go.ChangeAt

theorem own : ownKnob Tryd.prog.godebug = none := by kernel_rfl
theorem laidOut' : laidOutB Tryd.prog = true := by kernel_rfl
theorem bytes8 : Tryd.prog.bytesOf 5 = 1 := by kernel_rfl
theorem cells8 : Tryd.prog.cellsOf 5 = 1 := by kernel_rfl
theorem u8_of_wf' {n : Int} (h : (Lit.int .u8 n).wf = true) : ((UInt8.ofNat n.toNat).toNat : Int) = n := by
  have hn : 0 ≤ n ∧ n < 256 := by
    have h' : (decide (0 ≤ n) && decide (n ≤ 255)) = true := h
    simp at h'
    omega
  rw [UInt8.toNat_ofNat']
  omega
theorem rdB_of_ints {W : World} {a : Addr} {len cap : Nat} {zs : List Int} (hl : len ≤ cap) (hz : zs.length = cap) (hreach : cap ≤ 140737488351232) (hcell : ∀ i, i < zs.length → W.cell? (a.add i) = some (.int .u8 (zs.getD i 0)))
    (hw : ∀ n ∈ zs, (Lit.int .u8 n).wf = true) : ∃ L : List UInt8, L.length = len ∧ RdB W (fun b => b < W.heap.size) (.slice (some a) len cap) L := by
  have hlen : ((zs.take len).map fun n => UInt8.ofNat n.toNat).length = len := by rw [List.length_map, List.length_take]; omega
  refine ⟨_, hlen, some a, cap, by rw [hlen], by rw [hlen]; exact hl, by rw [hlen]; omega, fun h0 => ⟨a, rfl, ?_, fun j hj => ?_⟩⟩
  · rw [hlen] at h0
    have := block_lt_of_cell (hcell 0 (by omega))
    rwa [block_add] at this
  · rw [hlen] at hj
    have hjz : j < zs.length := by omega
    rw [hcell j hjz]
    have e1 : zs.getD j 0 = zs[j] := by rw [List.getD_eq_getElem?_getD, List.getElem?_eq_getElem hjz]; rfl
    have e2 : ((zs.take len).map fun n => UInt8.ofNat n.toNat).getD j 0 = UInt8.ofNat zs[j].toNat := by
      rw [List.getD_eq_getElem?_getD, List.getElem?_map, List.getElem?_take, if_pos hj, List.getElem?_eq_getElem hjz]
      rfl
    rw [e1, e2, bv, u8_of_wf' (hw _ (List.getElem_mem hjz))]
theorem rdB_none (W : World) (ok : Nat → Prop) (c : Nat) : RdB W ok (.slice none 0 c) [] := ⟨none, c, rfl, Nat.zero_le _, by simp, fun h => by simp at h⟩

section
variable {H : Type} {enc : TypeId × Value → H}
/-- Within the reach. -/
def Light (t : TypeId) (d : DataW H) : Prop := ∀ n ∈ d.weights Tryd.prog t, n ≤ 140737488351232
theorem light_of {ts : List TypeId} {ds : List (DataW H)} (h : (DataW.weightsEach Tryd.prog ts ds).all (· ≤ reachBytes) = true) {j : Nat} {t : TypeId} {d : DataW H} (ht : ts[j]? = some t) (hd : ds[j]? = some d) : Light t d := fun n hn => by
  have := List.all_eq_true.1 h _ (DataW.weights_mem_each ht hd n hn)
  exact of_decide_eq_true this
theorem weightsAll_mem {P : Program} {e : TypeId} : ∀ {l : List (DataW H)} {d : DataW H}, d ∈ l → ∀ n ∈ d.weights P e, n ∈ DataW.weightsAll P e l
  | d' :: r, d, hd, n, hn => by
    simp only [DataW.weightsAll, List.mem_append]
    rcases List.mem_cons.1 hd with rfl | h
    · exact Or.inl hn
    · exact Or.inr (weightsAll_mem h n hn)
theorem light_field {t : TypeId} {fs : Array Field} {parts : List (DataW H)} (hu : Tryd.prog.underlying t = some (.struct fs)) (h : Light t (.agg parts)) {j : Nat} {f : Field} {d : DataW H} (hf : fs[j]? = some f) (hd : parts[j]? = some d) : Light f.type d := fun n hn => h n (by
  rw [DataW.weights, hu]
  exact DataW.weights_mem_each (j := j) (t := f.type) (by rw [List.getElem?_map, Array.getElem?_toList, hf]; rfl) hd n hn)
theorem light_elem {t e : TypeId} {elems spare : List (DataW H)} (hu : Tryd.prog.underlying t = some (.slice e)) (h : Light t (.slice elems spare)) {d : DataW H} (hd : d ∈ elems) : Light e d := fun n hn => h n (by
  rw [DataW.weights, hu]
  exact List.mem_cons_of_mem _ (List.mem_append_left _ (weightsAll_mem hd n hn)))
theorem light_len {t e : TypeId} {elems spare : List (DataW H)} (hu : Tryd.prog.underlying t = some (.slice e)) (h : Light t (.slice elems spare)) : (elems.length + spare.length) * Tryd.prog.bytesOf e ≤ 140737488351232 := h _ (by
  rw [DataW.weights, hu]
  exact List.mem_cons_self)
/-- []byte. -/
theorem open_bytes {W : World} {fuel : Nat} {cs : List Value} {d : DataW H} {p : List MemPlace} (hl : Light 42 d) (h : DataW.trod enc Tryd.prog W 0 (fun _ => true) true fuel 42 cs = some (d, p)) :
    ∃ (A : Option Addr) (c : Nat) (L : List UInt8), cs = [.slice A L.length c] ∧ RdB W (fun b => b < W.heap.size) (.slice A L.length c) L := by
  rcases open_ints Tryd.underlying42 Tryd.underlying5 cells8 h with ⟨rfl, hx⟩ | ⟨a, len', cap', zs, rfl, _, hle, hm, hz, hx, hcell, hwz⟩
  · exact ⟨none, 0, [], rfl, rdB_none _ _ _⟩
  · simp only [Prod.mk.injEq] at hx
    obtain ⟨rfl, rfl⟩ := hx
    simp only [if_true] at hz
    have hs := light_len Tryd.underlying42 hl
    rw [bytes8] at hs
    simp only [lits, List.length_map, List.length_take, List.length_drop] at hs
    obtain ⟨L, hL, hr⟩ := rdB_of_ints (W := W) (a := a) hle hz (by omega) hcell hwz
    subst hL
    exact ⟨_, _, L, rfl, hr⟩
/-- An argument reads as it did. -/
theorem stays {t : TypeId} (hr : Tryd.prog.readableRec t = true) (hrow : t < Tryd.prog.types.size) {W W' : World} {v : Value} {d : DataW H} {ps : List MemPlace} (h : DataW.Trod enc Tryd.prog W 0 (fun _ => true) true t v d ps) (hb : Below W.heap.size W W')
    (hlt : ∀ p ∈ ps, p.block < W.heap.size) {sp : Nat → Bool} (hs : ∀ p ∈ ps, sp p.block = true) : DataW.Trod enc Tryd.prog W' 0 sp true t v d ps :=
  WideElems.Trod_stays laidOut' hr hrow h (fun x hx => hb.same (hlt x hx)) hs
end
section
variable {H : Type} {enc : TypeId × Value → H} {P : Program}
/-- The guide's 'post_of_below' (howto/extra-small.md): nothing that lay below the heap's size has turned. -/
theorem post_of_below {f : Func} {s : ChangeSpec} {apart fresh handsOn again : Bool} {W W' : World} {args : Array Value} {v : Value} {ds gs : List (DataW H)} {before pa pv : List MemPlace}
    (hW : DataW.Whole enc P f.params.toList s.vars apart W args.toList ds gs before)
    (hres : ∀ (b : Nat) (sp : Nat → Bool) (hd : Bool), DataW.TrodAll enc P W' b sp hd f.resultTypes.toList (v.resultList f.resultTypes.size) (s.fn H (ds ++ gs)).results [])
    (hargs : ∀ sp : Nat → Bool, (∀ p ∈ before, sp p.block = true) → DataW.TrodAll enc P W' 0 sp true f.params.toList args.toList (s.fn H (ds ++ gs)).args pa)
    (hvars : ∀ sp : Nat → Bool, (∀ p ∈ before, sp p.block = true) → DataW.TrodVars enc P W' sp s.vars (s.fn H (ds ++ gs)).vars pv)
    (hps : before = pa ++ pv) (hb : Below W.heap.size W W')
    (hok : ∀ (j : Nat) (t : TypeId) (r : Value), f.resultTypes[j]? = some t → (v.resultList f.resultTypes.size)[j]? = some r → Value.okWide P W' .any 0 t r) :
    s.post enc P f apart fresh handsOn again W args v W' := by
  have hlt : ∀ p ∈ before, p.block < W.heap.size := fun p hp => hW.lt p hp
  have hold : ∀ p ∈ before, (fun b => decide (b < W.heap.size)) p.block = true := fun p hp => by simpa using hlt p hp
  refine ⟨ds, gs, before, [], pa, pv, hW, hres _ _ _, hargs _ hold, hvars _ hold, World.keptBut_mono (fun p hp => ⟨hp, ?_⟩) (hb.frame (· ∈ before)), fun _ => ?_⟩
  · rw [hps, List.mem_append] at hp
    exact Or.inr hp
  · obtain ⟨_, _, _, _, _, hz, hn⟩ := hW
    refine ⟨hok, _, _, ([] ++ pa) ++ pv, ⟨[] ++ pa, pv, trodAll_append (hargs _ (fun _ _ => rfl)) (hres _ _ _), hvars _ (fun _ _ => rfl), rfl, ?_, ?_⟩, ?_⟩
    · intro b off hp
      have hin : MemPlace.cell b off ∈ before := by rw [hps]; simpa using hp
      rw [hb.frozen (hlt _ hin)]
      exact hz b off hin
    · intro ha
      have := hn ha
      rw [hps] at this
      simpa using this
    · intro p hp _
      rw [hps]
      simpa using hp
end
end Go.Proofs.YtkbdkeclbokhdaaDoor
namespace Go.Proofs.YtkbdkeclbokhdaaDoor
open Go Go.ChangeShapes Go.WideShapes Go.ChangeAt Go.RowKit

theorem gFirst : Tryd.prog.globalNamed "scrivener/sum.first" = some 0 := by kernel_rfl
theorem gRounds : Tryd.prog.globalNamed "scrivener/sum.rounds" = some 1 := by kernel_rfl
theorem tFirst : (Tryd.prog.globals[0]?).map (·.type) = some 143 := by kernel_rfl
theorem tRounds : (Tryd.prog.globals[1]?).map (·.type) = some 155 := by kernel_rfl
theorem cellsFirst : Tryd.prog.cellsOf 143 = 8 := by kernel_rfl
theorem cellsRounds : Tryd.prog.cellsOf 155 = 64 := by kernel_rfl
theorem cellsU32 : Tryd.prog.cellsOf 142 = 1 := by kernel_rfl

def laid2 : List (String × DataW Unit) := [("scrivener/sum.first", Rows.laid_scrivener_sum_first), ("scrivener/sum.rounds", Rows.laid_scrivener_sum_rounds)]
def hInts : List Int := hList.map fun x => (x.toNat : Int)
def kInts : List Int := kList.map fun x => (x.toNat : Int)

theorem tables_of {W : World} (h : laidMetH Tryd.prog laid2 W) : Tables W := by
  rw [MakeChecks.laidMetH_plain _ _ _ (by kernel_rfl)] at h
  obtain ⟨ps, ⟨g0, t0, cs0, f0, p0, q0, hg0, ht0, hv0, hd0, ⟨g1, t1, cs1, f1, p1, q1, hg1, ht1, hv1, hd1, _, _⟩, _⟩, _, _⟩ := h
  obtain rfl := Option.some.inj (gFirst.symm.trans hg0)
  obtain rfl := Option.some.inj (gRounds.symm.trans hg1)
  obtain rfl := Option.some.inj (tFirst.symm.trans ht0)
  obtain rfl := Option.some.inj (tRounds.symm.trans ht1)
  have e0 : (Rows.laid_scrivener_sum_first : DataW Unit) = Lib.tabData .u32 hInts := by kernel_rfl
  have e1 : (Rows.laid_scrivener_sum_rounds : DataW Unit) = Lib.tabData .u32 kInts := by kernel_rfl
  rw [e0] at hd0
  rw [e1] at hd1
  have q0 : Lib.TabIs Tryd.prog W "scrivener/sum.first" .u32 hInts := by
    unfold Lib.TabIs
    rw [hv0, ← Lib.cells_of_tab Tryd.underlying143 Tryd.underlying142 cellsU32 cellsFirst hd0]
  have q1 : Lib.TabIs Tryd.prog W "scrivener/sum.rounds" .u32 kInts := by
    unfold Lib.TabIs
    rw [hv1, ← Lib.cells_of_tab Tryd.underlying155 Tryd.underlying142 cellsU32 cellsRounds hd1]
  refine ⟨fun i hi => ?_, fun i hi => ?_⟩
  · have hl : hInts.length = 8 := by kernel_rfl
    rw [q0.cell gFirst i (by omega)]
    unfold u hAt hInts
    rw [List.getD_eq_getElem?_getD, List.getD_eq_getElem?_getD, List.getElem?_map, List.getElem?_eq_getElem (by exact hi)]
    rfl
  · have hl : kInts.length = 64 := by kernel_rfl
    rw [q1.cell gRounds i (by omega)]
    unfold u kAt kInts
    rw [List.getD_eq_getElem?_getD, List.getD_eq_getElem?_getD, List.getElem?_map, List.getElem?_eq_getElem (by exact hi)]
    rfl

/-- A world for the witness: the settled one, the two tables holding what their initialisers lay. -/
def withCells (cs : Array Value) (x : Obj) : Obj :=
  match x with
  | .cells _ t frozen => .cells cs t frozen
  | y => y
noncomputable def laidWorld (os : Os) : World :=
  { World.holding Tryd.prog os ⟨#[], #[], []⟩ with heap := Array.modify (Array.modify (World.holding Tryd.prog os ⟨#[], #[], []⟩).heap 0 (withCells (hList.map u).toArray)) 1 (withCells (kList.map u).toArray) }
end Go.Proofs.YtkbdkeclbokhdaaDoor
namespace Go.Proofs.YtkbdkeclbokhdaaDoor
open Go Go.RowKit Go.ChangeShapes Go.WideShapes Go.ChangeAt

theorem cellsS : Tryd.prog.cellsOf 42 = 1 := by kernel_rfl
theorem bytesS : Tryd.prog.bytesOf 42 = 24 := by kernel_rfl
theorem add_add' (a : Addr) (i j : Nat) : (a.add i).add j = a.add (i + j) := add_add a i j
section
variable {H : Type} {enc : TypeId × Value → H}
set_option maxRecDepth 100000 in
/-- [][]byte. -/
theorem open_rows {W : World} {fuel : Nat} {cs : List Value} {d : DataW H} {p : List MemPlace} (hl : Light 57 d) (h : DataW.trod enc Tryd.prog W 0 (fun _ => true) true fuel 57 cs = some (d, p)) :
    ∃ (A : Option Addr) (c : Nat) (ps : List (List UInt8)), cs = [.slice A ps.length c] ∧ ps.length ≤ 140737488351232 ∧ RdP W (fun b => b < W.heap.size) A ps := by
  rcases Go.Deep.open_slice Tryd.underlying57 h with ⟨rfl, hx⟩ | ⟨a, len, cap, m, n, D, Pl, rfl, _, hle, hm, hmm, hx, hi⟩
  · exact ⟨none, 0, [], rfl, by simp, fun k hk => by simp at hk⟩
  · simp only [Prod.mk.injEq] at hx
    obtain ⟨rfl, rfl⟩ := hx
    simp only [if_true] at hmm
    subst hmm
    have hs := light_len Tryd.underlying57 hl
    rw [bytesS] at hs
    simp only [List.length_map, List.length_range] at hs
    have each : ∀ k, k < len → ∃ (A : Option Addr) (c : Nat) (L : List UInt8), W.cell? (a.add k) = some (.slice A L.length c) ∧ RdB W (fun b => b < W.heap.size) (.slice A L.length c) L := fun k hk => by
      obtain ⟨cs', hc, ht⟩ := hi k (by omega)
      rw [cellsS] at hc
      obtain ⟨A, c, L, rfl, hr⟩ := open_bytes (light_elem Tryd.underlying57 hl (List.mem_map.2 ⟨k, List.mem_range.2 hk, rfl⟩)) ht
      obtain ⟨_, _, hat⟩ := World.cells?_some hc
      have := hat 0 (by omega)
      rw [Nat.mul_one, add_add', Nat.add_zero] at this
      exact ⟨A, c, L, this, hr⟩
    refine ⟨some a, _, (List.range len).map fun k => if hk : k < len then Classical.choose (Classical.choose_spec (Classical.choose_spec (each k hk))) else [], by rw [List.length_map, List.length_range], by simp; omega, fun k hk => ?_⟩
    have hk' : k < len := by simpa using hk
    have hsp := Classical.choose_spec (Classical.choose_spec (Classical.choose_spec (each k hk')))
    refine ⟨a, _, rfl, ?_, hsp.1, ?_⟩
    · have := block_lt_of_cell hsp.1
      rwa [block_add] at this
    · have e : ((List.range len).map fun k => if hk : k < len then Classical.choose (Classical.choose_spec (Classical.choose_spec (each k hk))) else []).getD k [] = Classical.choose (Classical.choose_spec (Classical.choose_spec (each k hk'))) := by
        rw [List.getD_eq_getElem?_getD, List.getElem?_map, List.getElem?_range hk']
        simp [hk']
      rw [e]
      exact hsp.2
end
end Go.Proofs.YtkbdkeclbokhdaaDoor
namespace Go.Proofs.YtkbdkeclbokhdaaDoor
open Go Go.RowKit

theorem arr_list (n : Nat) (f : Nat → Value) : arr n f = ((List.range n).map f).toArray := by
  unfold arr
  apply Array.ext_getElem?
  intro i
  by_cases h : i < n <;> simp [h]
theorem arr_getD (xs : Array Value) {n : Nat} (h : xs.size = n) : xs = arr n (fun i => xs.getD i undef) :=
  arr_of n xs _ h fun i hi => by simp [Array.getD_eq_getD_getElem?, Array.getElem?_eq_getElem (show i < xs.size by omega)]
theorem only_of_below {a w : World} (h : Below a.heap.size a w) (row : Option Nat) : a.grownBy w row := ⟨h.os, h.tape, h.output, h.size, fun i hi _ => h.block i hi⟩
end Go.Proofs.YtkbdkeclbokhdaaDoor
