/-
  What the rows' list of variables gives: the two tables of package sum hold their numbers; and a world that fits, for the witness. No condition of its own.
-/
import Derived.Test.YtphknicdllcbmaaDoorCards
import Derived.Test.YtphknicdllcbmaaDoorTie
import Derived.Test.YtphknicdllcbmaaDoorOfT
import Derived.Test.YtphknicdllcbmaaDoorArgsB
import Derived.Lib.LaidTab
import Derived.LaidMore
namespace Go.Proofs.YtphknicdllcbmaaDoor
open Go Go.ChangeShapes Go.WideShapes Go.ChangeAt Go.RowKit

theorem gFirst : Tryd.prog.globalNamed "scrivener/sum.first" = some 0 := by kernel_rfl
theorem gRounds : Tryd.prog.globalNamed "scrivener/sum.rounds" = some 1 := by kernel_rfl
theorem tFirst : (Tryd.prog.globals[0]?).map (·.type) = some 77 := by kernel_rfl
theorem tRounds : (Tryd.prog.globals[1]?).map (·.type) = some 97 := by kernel_rfl
theorem cellsFirst : Tryd.prog.cellsOf 77 = 8 := by kernel_rfl
theorem cellsRounds : Tryd.prog.cellsOf 97 = 64 := by kernel_rfl
theorem cellsU32 : Tryd.prog.cellsOf 76 = 1 := by kernel_rfl

def laid2 : List (String × DataW Unit) := [("scrivener/sum.first", Rows.laid_scrivener_sum_first), ("scrivener/sum.rounds", Rows.laid_scrivener_sum_rounds)]
def hInts : List Int := hList.map fun x => (x.toNat : Int)
def kInts : List Int := kList.map fun x => (x.toNat : Int)

theorem tables_of {W : World} (h : laidMetH Tryd.prog laid2 W) : Tables W := by
  rw [MakeChecks.laidMetH_plain _ _ _ (by kernel_rfl)] at h
  obtain ⟨ps, ⟨g0, t0, cs0, f0, p0, q0, hg0, ht0, hv0, hd0, ⟨g1, t1, cs1, f1, p1, q1, hg1, ht1, hv1, hd1, _, _⟩, _⟩, _, _⟩ := h
  obtain rfl := Option.some.inj (gFirst.symm.trans hg0)
  obtain rfl := Option.some.inj (gRounds.symm.trans hg1)
  obtain rfl := Option.some.inj (tFirst.symm.trans ht0)
  obtain rfl := Option.some.inj (tRounds.symm.trans ht1)
  have e0 : (Rows.laid_scrivener_sum_first : DataW Unit) = Lib.tabData .u32 hInts := by kernel_rfl
  have e1 : (Rows.laid_scrivener_sum_rounds : DataW Unit) = Lib.tabData .u32 kInts := by kernel_rfl
  rw [e0] at hd0
  rw [e1] at hd1
  have q0 : Lib.TabIs Tryd.prog W "scrivener/sum.first" .u32 hInts := by
    unfold Lib.TabIs
    rw [hv0, ← Lib.cells_of_tab Tryd.underlying77 Tryd.underlying76 cellsU32 cellsFirst hd0]
  have q1 : Lib.TabIs Tryd.prog W "scrivener/sum.rounds" .u32 kInts := by
    unfold Lib.TabIs
    rw [hv1, ← Lib.cells_of_tab Tryd.underlying97 Tryd.underlying76 cellsU32 cellsRounds hd1]
  refine ⟨fun i hi => ?_, fun i hi => ?_⟩
  · have hl : hInts.length = 8 := by kernel_rfl
    rw [q0.cell gFirst i (by omega)]
    unfold u hAt hInts
    rw [List.getD_eq_getElem?_getD, List.getD_eq_getElem?_getD, List.getElem?_map, List.getElem?_eq_getElem (by exact hi)]
    rfl
  · have hl : kInts.length = 64 := by kernel_rfl
    rw [q1.cell gRounds i (by omega)]
    unfold u kAt kInts
    rw [List.getD_eq_getElem?_getD, List.getD_eq_getElem?_getD, List.getElem?_map, List.getElem?_eq_getElem (by exact hi)]
    rfl

/-- A world for the witness: the settled one, the two tables holding what their initialisers lay. -/
def withCells (cs : Array Value) (x : Obj) : Obj :=
  match x with
  | .cells _ t frozen => .cells cs t frozen
  | y => y
noncomputable def laidWorld (os : Os) : World :=
  { World.holding Tryd.prog os ⟨#[], #[], []⟩ with heap := Array.modify (Array.modify (World.holding Tryd.prog os ⟨#[], #[], []⟩).heap 0 (withCells (hList.map u).toArray)) 1 (withCells (kList.map u).toArray) }
end Go.Proofs.YtphknicdllcbmaaDoor
