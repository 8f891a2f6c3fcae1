/-
  Bytes as strings and sums held against each other: small words for the laws' walks. No condition.
-/
import Derived.Test.YtphknicdllcbmaaDoorRd
import Derived.Test.YtphknicdllcbmaaDoorFrame
import Derived.Stop.BytesEq
import Derived.StillTailTactics
import Derived.Deep.QuietTactic
import Derived.BigQuiet
import Derived.WalkSpells
import Derived.WalkLawsBesides
import Derived.Lib.Hide
import Derived.Lib.SlBytesConst
import Derived.Lib.SmallJoins
import Derived.Deep.AppendSrc
import Derived.Deep.Upon
import Derived.Lib.SlBuf
import Derived.Deep.DeepAppendWide
import Derived.Deep.MidRow
namespace Go.Proofs.YtphknicdllcbmaaDoor
open Go Go.RowKit Go.Shelf

/-- A sum's bytes as a list. -/
def id32 (f : Nat → UInt8) : List UInt8 := (List.range 32).map f
theorem arr_id32 (f : Nat → UInt8) : (arr 32 fun i => bv (f i)) = ((id32 f).map Extern.Stop.cell).toArray := by
  apply Array.ext_getElem?
  intro i
  rw [arr_get]
  by_cases h : i < 32
  · simp [id32, h]; rfl
  · simp [id32, h]
theorem eql_id (f g : Nat → UInt8) (w : World) : (binOp .eql 30 (.agg (arr 32 fun i => bv (f i))) (.agg (arr 32 fun i => bv (g i)))).run Tryd.prog w = .ok (.bool (id32 f == id32 g)) w := by
  rw [arr_id32, arr_id32]
  exact run_eql_bytes w 30 5 32 Tryd.underlying30 Tryd.underlying5 (size_one (by kernel_rfl)) _ _ (by simp [id32]) (by simp [id32])
/-! ### Nothing of W has turned -/
theorem Kp.drew {W w : World} (h : Below W.heap.size W w) : Below W.heap.size W w.drew := Below.drew h
theorem Kp.alloc {W w : World} (h : Below W.heap.size W w) (o : Obj) : Below W.heap.size W (w.alloc o) := Below.alloc h h.size o
/-- A sum as a list of cells. -/
theorem sum_cells (L : List UInt8) : ∃ cs : List Value, shaV L = .agg cs.toArray ∧ cs.length = 32 ∧ (∀ v ∈ cs, v.oneCell' = true) ∧ (Tryd.prog.info? 30).map (·.size) = some cs.length ∧ (arr 32 fun i => bv (sha L i)) = cs.toArray :=
  ⟨(id32 (sha L)).map Extern.Stop.cell, by rw [shaV, arr_id32], by simp [id32], fun v hv => by
    simp only [List.mem_map] at hv
    obtain ⟨i, _, rfl⟩ := hv
    rfl, by rw [show ((id32 (sha L)).map Extern.Stop.cell).length = 32 from by simp [id32]]; kernel_rfl, arr_id32 _⟩
theorem results_cell_mid {P : Program} {fn : Func} {p : Tmp} {ty : TypeId} (h : fn.results = #[.cell p ty]) (tmps : Array Value) (w : World) (g : Nat) (cs : List Value) (d : TypeDesc)
    (hp : tmps.getD p undef = .pointer (some ⟨g, 0, none⟩)) (hc : w.rangeAt g 0 cs) (hu : P.underlying ty = some d) (hd : d.isRow = true) (hi : (P.info? ty).map (·.size) = some cs.length) :
    (results fn tmps).run P w = .ok (.agg cs.toArray) w := by
  have hp' : tmps[p]?.getD undef = .pointer (some ⟨g, 0, none⟩) := by simpa using hp
  simp [results, h, hp', asAddr, run_loadVar_mid w g 0 ty cs d hc hu hd hi]
theorem there_blk {W : World} {g t n : Nat} {f : Nat → Value} (h : Blk W g t (arr n f)) : W.there g 0 n := fun j hj => ⟨by rw [Nat.zero_add, h.cell, arr_get, if_pos hj]; rfl, h.frozen _⟩
theorem range_blk {W : World} {g t : Nat} {cs : List Value} (h : Blk W g t cs.toArray) : W.rangeAt g 0 cs := fun j v hv => by
  rw [Nat.zero_add, h.cell]; simpa using hv
end Go.Proofs.YtphknicdllcbmaaDoor
