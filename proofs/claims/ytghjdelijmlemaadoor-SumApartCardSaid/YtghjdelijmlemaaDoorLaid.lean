/-
  What the rows' list of variables gives: the two tables of package sum hold their numbers; and a world that fits, for the witness. No condition of its own.
-/
import Derived.Test.YtghjdelijmlemaaDoorCards
import Derived.Test.YtghjdelijmlemaaDoorTie
import Derived.Test.YtghjdelijmlemaaDoorOf
import Derived.ProofKit
import Derived.OpenShut
import Derived.Deep.DeepHandedRow
import Derived.Lib.LaidTab
import Derived.LaidMore
namespace Go.Proofs.YtghjdelijmlemaaDoor
open Go Go.ChangeShapes Go.WideShapes Go.ChangeAt Go.RowKit

theorem own : ownKnob Tryd.prog.godebug = none := by kernel_rfl
theorem gFirst : Tryd.prog.globalNamed "scrivener/sum.first" = some 0 := by kernel_rfl
theorem gRounds : Tryd.prog.globalNamed "scrivener/sum.rounds" = some 1 := by kernel_rfl
theorem tFirst : (Tryd.prog.globals[0]?).map (·.type) = some 47 := by kernel_rfl
theorem tRounds : (Tryd.prog.globals[1]?).map (·.type) = some 59 := by kernel_rfl
theorem cellsFirst : Tryd.prog.cellsOf 47 = 8 := by kernel_rfl
theorem cellsRounds : Tryd.prog.cellsOf 59 = 64 := by kernel_rfl
theorem cellsU32 : Tryd.prog.cellsOf 46 = 1 := by kernel_rfl

def laid2 : List (String × DataW Unit) := [("scrivener/sum.first", Rows.laid_scrivener_sum_first), ("scrivener/sum.rounds", Rows.laid_scrivener_sum_rounds)]
def hInts : List Int := hList.map fun x => (x.toNat : Int)
def kInts : List Int := kList.map fun x => (x.toNat : Int)

theorem tables_of {W : World} (h : laidMetH Tryd.prog laid2 W) : Tables W := by
  rw [MakeChecks.laidMetH_plain _ _ _ (by kernel_rfl)] at h
  obtain ⟨ps, ⟨g0, t0, cs0, f0, p0, q0, hg0, ht0, hv0, hd0, ⟨g1, t1, cs1, f1, p1, q1, hg1, ht1, hv1, hd1, _, _⟩, _⟩, _, _⟩ := h
  obtain rfl := Option.some.inj (gFirst.symm.trans hg0)
  obtain rfl := Option.some.inj (gRounds.symm.trans hg1)
  obtain rfl := Option.some.inj (tFirst.symm.trans ht0)
  obtain rfl := Option.some.inj (tRounds.symm.trans ht1)
  have e0 : (Rows.laid_scrivener_sum_first : DataW Unit) = Lib.tabData .u32 hInts := by kernel_rfl
  have e1 : (Rows.laid_scrivener_sum_rounds : DataW Unit) = Lib.tabData .u32 kInts := by kernel_rfl
  rw [e0] at hd0
  rw [e1] at hd1
  have q0 : Lib.TabIs Tryd.prog W "scrivener/sum.first" .u32 hInts := by
    unfold Lib.TabIs
    rw [hv0, ← Lib.cells_of_tab Tryd.underlying47 Tryd.underlying46 cellsU32 cellsFirst hd0]
  have q1 : Lib.TabIs Tryd.prog W "scrivener/sum.rounds" .u32 kInts := by
    unfold Lib.TabIs
    rw [hv1, ← Lib.cells_of_tab Tryd.underlying59 Tryd.underlying46 cellsU32 cellsRounds hd1]
  refine ⟨fun i hi => ?_, fun i hi => ?_⟩
  · have hl : hInts.length = 8 := by kernel_rfl
    rw [q0.cell gFirst i (by omega)]
    unfold u hAt hInts
    rw [List.getD_eq_getElem?_getD, List.getD_eq_getElem?_getD, List.getElem?_map, List.getElem?_eq_getElem (by exact hi)]
    rfl
  · have hl : kInts.length = 64 := by kernel_rfl
    rw [q1.cell gRounds i (by omega)]
    unfold u kAt kInts
    rw [List.getD_eq_getElem?_getD, List.getD_eq_getElem?_getD, List.getElem?_map, List.getElem?_eq_getElem (by exact hi)]
    rfl

/-- A world for the witness: the settled one, the two tables holding what their initialisers lay. -/
def withCells (cs : Array Value) (x : Obj) : Obj :=
  match x with
  | .cells _ t frozen => .cells cs t frozen
  | y => y
noncomputable def laidWorld (os : Os) : World :=
  { World.holding Tryd.prog os ⟨#[], #[], []⟩ with heap := Array.modify (Array.modify (World.holding Tryd.prog os ⟨#[], #[], []⟩).heap 0 (withCells (hList.map u).toArray)) 1 (withCells (kList.map u).toArray) }
section
variable {H : Type} {enc : TypeId × Value → H} {P : Program}
/-- The guide's 'post_of_below' (howto/extra-small.md): nothing that lay below the heap's size has turned. -/
theorem post_of_below {f : Func} {s : ChangeSpec} {apart fresh handsOn again : Bool} {W W' : World} {args : Array Value} {v : Value} {ds gs : List (DataW H)} {before pa pv : List MemPlace}
    (hW : DataW.Whole enc P f.params.toList s.vars apart W args.toList ds gs before)
    (hres : ∀ (b : Nat) (sp : Nat → Bool) (hd : Bool), DataW.TrodAll enc P W' b sp hd f.resultTypes.toList (v.resultList f.resultTypes.size) (s.fn H (ds ++ gs)).results [])
    (hargs : ∀ sp : Nat → Bool, (∀ p ∈ before, sp p.block = true) → DataW.TrodAll enc P W' 0 sp true f.params.toList args.toList (s.fn H (ds ++ gs)).args pa)
    (hvars : ∀ sp : Nat → Bool, (∀ p ∈ before, sp p.block = true) → DataW.TrodVars enc P W' sp s.vars (s.fn H (ds ++ gs)).vars pv)
    (hps : before = pa ++ pv) (hb : Below W.heap.size W W')
    (hok : ∀ (j : Nat) (t : TypeId) (r : Value), f.resultTypes[j]? = some t → (v.resultList f.resultTypes.size)[j]? = some r → Value.okWide P W' .any 0 t r) :
    s.post enc P f apart fresh handsOn again W args v W' := by
  have hlt : ∀ p ∈ before, p.block < W.heap.size := fun p hp => hW.lt p hp
  have hold : ∀ p ∈ before, (fun b => decide (b < W.heap.size)) p.block = true := fun p hp => by simpa using hlt p hp
  refine ⟨ds, gs, before, [], pa, pv, hW, hres _ _ _, hargs _ hold, hvars _ hold, World.keptBut_mono (fun p hp => ⟨hp, ?_⟩) (hb.frame (· ∈ before)), fun _ => ?_⟩
  · rw [hps, List.mem_append] at hp
    exact Or.inr hp
  · obtain ⟨_, _, _, _, _, hz, hn⟩ := hW
    refine ⟨hok, _, _, ([] ++ pa) ++ pv, ⟨[] ++ pa, pv, trodAll_append (hargs _ (fun _ _ => rfl)) (hres _ _ _), hvars _ (fun _ _ => rfl), rfl, ?_, ?_⟩, ?_⟩
    · intro b off hp
      have hin : MemPlace.cell b off ∈ before := by rw [hps]; simpa using hp
      rw [hb.frozen (hlt _ hin)]
      exact hz b off hin
    · intro ha
      have := hn ha
      rw [hps] at this
      simpa using this
    · intro p hp _
      rw [hps]
      simpa using hp
end
end Go.Proofs.YtghjdelijmlemaaDoor
