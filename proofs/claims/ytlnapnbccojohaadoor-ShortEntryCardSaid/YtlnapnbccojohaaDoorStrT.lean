/-
  Bytes as strings and sums held against each other: small words for the laws' walks. No condition.
-/
import Derived.Test.YtlnapnbccojohaaDoorQRd
import Derived.Test.YtlnapnbccojohaaDoorFrame
import Derived.Stop.BytesEq
import Derived.StillTailTactics
import Derived.Deep.QuietTactic
import Derived.BigQuiet
import Derived.WalkSpells
import Derived.WalkLawsBesides
import Derived.Lib.Hide
import Derived.Lib.SlBytesConst
import Derived.Lib.SmallJoins
import Derived.Deep.AppendSrc
import Derived.Deep.Upon
import Derived.Lib.SlBuf
import Derived.Deep.DeepAppendWide
import Derived.Deep.MidRow
namespace Go.Proofs.YtlnapnbccojohaaDoor
open Go Go.RowKit Go.Shelf

set_option maxRecDepth 100000 in
theorem str_rd {w : World} {ok : Nat → Prop} {A : Option Addr} {n c : Nat} {bs : List UInt8} (h : RdB w ok (.slice A n c) bs) : (convert 50 9 (.slice A n c)).run Tryd.prog w = .ok (.string ⟨bs.toArray⟩) w := by
  obtain ⟨A', c', e, h1, h2, h3⟩ := h
  injection e with e1 e2 e3
  subst e1; subst e2; subst e3
  by_cases h0 : 0 < bs.length
  · obtain ⟨ad, rfl, _, hc⟩ := h3 h0
    exact run_convert_bytes_back (P := Tryd.prog) w 50 9 5 ad c bs Tryd.underlying50 Tryd.underlying5 Tryd.underlying9 (fun j hj => by
      rw [hc j hj]
      simp [bv, List.getD_eq_getElem?_getD, hj])
  · obtain rfl : bs = [] := List.length_eq_zero_iff.1 (by omega)
    cases A with
    | none =>
      show (convert 50 9 (.slice none 0 c)).run Tryd.prog w = _
      rw [run_convert_bytes_string w 50 9 5 none 0 c Tryd.underlying50 Tryd.underlying5 Tryd.underlying9]
      simp [Conv.bytesToString]; rfl
    | some a => exact run_convert_bytes_back (P := Tryd.prog) w 50 9 5 a c [] Tryd.underlying50 Tryd.underlying5 Tryd.underlying9 (fun j hj => by simp at hj)
theorem ba_app (a b : List UInt8) : (({ data := a.toArray } : ByteArray) ++ { data := b.toArray }) = ⟨(a ++ b).toArray⟩ := by
  apply ByteArray.ext
  simp
/-- A sum's bytes as a list. -/
def id32 (f : Nat → UInt8) : List UInt8 := (List.range 32).map f
theorem arr_id32 (f : Nat → UInt8) : (arr 32 fun i => bv (f i)) = ((id32 f).map Extern.Stop.cell).toArray := by
  apply Array.ext_getElem?
  intro i
  rw [arr_get]
  by_cases h : i < 32
  · simp [id32, h]; rfl
  · simp [id32, h]
theorem eql_id (f g : Nat → UInt8) (w : World) : (binOp .eql 23 (.agg (arr 32 fun i => bv (f i))) (.agg (arr 32 fun i => bv (g i)))).run Tryd.prog w = .ok (.bool (id32 f == id32 g)) w := by
  rw [arr_id32, arr_id32]
  exact run_eql_bytes w 23 5 32 Tryd.underlying23 Tryd.underlying5 (size_one (by kernel_rfl)) _ _ (by simp [id32]) (by simp [id32])
/-! ### Nothing of W has turned -/
theorem Kp.drew {W w : World} (h : Below W.heap.size W w) : Below W.heap.size W w.drew := Below.drew h
theorem Kp.alloc {W w : World} (h : Below W.heap.size W w) (o : Obj) : Below W.heap.size W (w.alloc o) := Below.alloc h h.size o
/-- A sum as a list of cells. -/
theorem sum_cells (L : List UInt8) : ∃ cs : List Value, shaV L = .agg cs.toArray ∧ cs.length = 32 ∧ (∀ v ∈ cs, v.oneCell' = true) ∧ (Tryd.prog.info? 23).map (·.size) = some cs.length ∧ (arr 32 fun i => bv (sha L i)) = cs.toArray :=
  ⟨(id32 (sha L)).map Extern.Stop.cell, by rw [shaV, arr_id32], by simp [id32], fun v hv => by
    simp only [List.mem_map] at hv
    obtain ⟨i, _, rfl⟩ := hv
    rfl, by rw [show ((id32 (sha L)).map Extern.Stop.cell).length = 32 from by simp [id32]]; kernel_rfl, arr_id32 _⟩
theorem results_cell_mid {P : Program} {fn : Func} {p : Tmp} {ty : TypeId} (h : fn.results = #[.cell p ty]) (tmps : Array Value) (w : World) (g : Nat) (cs : List Value) (d : TypeDesc)
    (hp : tmps.getD p undef = .pointer (some ⟨g, 0, none⟩)) (hc : w.rangeAt g 0 cs) (hu : P.underlying ty = some d) (hd : d.isRow = true) (hi : (P.info? ty).map (·.size) = some cs.length) :
    (results fn tmps).run P w = .ok (.agg cs.toArray) w := by
  have hp' : tmps[p]?.getD undef = .pointer (some ⟨g, 0, none⟩) := by simpa using hp
  simp [results, h, hp', asAddr, run_loadVar_mid w g 0 ty cs d hc hu hd hi]
theorem there_blk {W : World} {g t n : Nat} {f : Nat → Value} (h : Blk W g t (arr n f)) : W.there g 0 n := fun j hj => ⟨by rw [Nat.zero_add, h.cell, arr_get, if_pos hj]; rfl, h.frozen _⟩
theorem range_blk {W : World} {g t : Nat} {cs : List Value} (h : Blk W g t cs.toArray) : W.rangeAt g 0 cs := fun j v hv => by
  rw [Nat.zero_add, h.cell]; simpa using hv
end Go.Proofs.YtlnapnbccojohaaDoor
