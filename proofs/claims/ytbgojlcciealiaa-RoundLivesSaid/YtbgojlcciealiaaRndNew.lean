/-
  One's way to agreement: its beginning. No condition.
-/
import Derived.Test.YtbgojlcciealiaaRndJoin
namespace Go.Proofs.Ytbgojlcciealiaa
open Go Go.RowKit Go.Maps

/-- Ahead of the first round. -/
def newS (v : Nat) (me hh : Int) : RdS := ⟨v, me, hh, -1, 3, zeroId, 0, zeroId, 0, zeroId, [], fun _ => ⟨false, 0, zeroId⟩, fun _ _ => false, noVotes⟩
set_option maxRecDepth 100000 in
theorem new_built (v : Nat) (me hh : Int) (C : Nat) : Try.prog.built 132 [(0, .int .i64 v), (1, .int .i64 me), (2, .int .i64 hh), (3, .int .i64 (-1)), (4, .int .i64 3), (11, .pointer (some ⟨C, 0, none⟩))] = some (arr 549 (rdF (newS v me hh) (.slice none 0 0) (.pointer (some ⟨C, 0, none⟩)))) := by kernel_rfl
theorem new_ok {v : Nat} {me hh : Int} (hv : v ≤ 1000) (hf : 0 ≤ faults v) (hm : 0 ≤ me ∧ me < v) (hh0 : 0 ≤ hh ∧ wfi hh) : RdOk (newS v me hh) :=
  ⟨⟨by show 1 ≤ v; omega, hv, hf⟩, hm, hh0, ⟨by show (-1 : Int) ≤ -1; omega, by show (-1 : Int) < 12; omega⟩, ⟨by show (0 : Int) ≤ 3; omega, by show (3 : Int) ≤ 3; omega⟩, fun _ => rfl, zeroId_ok, ⟨by show (0 : Int) ≤ 0; omega, by show (0 : Int) ≤ 12; omega⟩, zeroId_ok, ⟨by show (0 : Int) ≤ 0; omega, by show (0 : Int) ≤ 12; omega⟩, zeroId_ok, ⟨by show 0 ≤ 32; omega, fun _ h => by cases h⟩, by show (0 : Int) ≤ -1 + 1; omega, fun k _ => ⟨zeroId_ok, by show (0 : Int) ≤ 0; omega, by show (0 : Int) ≤ (k : Int); omega⟩⟩
end Go.Proofs.Ytbgojlcciealiaa
