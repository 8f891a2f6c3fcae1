/-
  Bytes as strings and sums held against each other: small words for the laws' walks. No condition.
-/
import Derived.Test.YtgpbpdjamimbfaaDoorRd
import Derived.Test.YtgpbpdjamimbfaaDoorFrame
import Derived.Stop.BytesEq
import Derived.StillTailTactics
import Derived.Deep.QuietTactic
import Derived.BigQuiet
import Derived.WalkSpells
import Derived.WalkLawsBesides
import Derived.Lib.Hide
import Derived.Lib.SlBytesConst
import Derived.Lib.SmallJoins
import Derived.Deep.AppendSrc
import Derived.Deep.Upon
import Derived.Lib.SlBuf
import Derived.Deep.DeepAppendWide
import Derived.Deep.MidRow
namespace Go.Proofs.YtgpbpdjamimbfaaDoor
open Go Go.RowKit Go.Shelf

set_option maxRecDepth 100000 in
theorem str_rd {w : World} {ok : Nat → Prop} {A : Option Addr} {n c : Nat} {bs : List UInt8} (h : RdB w ok (.slice A n c) bs) : (convert 42 9 (.slice A n c)).run Tryd.prog w = .ok (.string ⟨bs.toArray⟩) w := by
  obtain ⟨A', c', e, h1, h2, h3⟩ := h
  injection e with e1 e2 e3
  subst e1; subst e2; subst e3
  by_cases h0 : 0 < bs.length
  · obtain ⟨ad, rfl, _, hc⟩ := h3 h0
    exact run_convert_bytes_back (P := Tryd.prog) w 42 9 5 ad c bs Tryd.underlying42 Tryd.underlying5 Tryd.underlying9 (fun j hj => by
      rw [hc j hj]
      simp [bv, List.getD_eq_getElem?_getD, hj])
  · obtain rfl : bs = [] := List.length_eq_zero_iff.1 (by omega)
    cases A with
    | none =>
      show (convert 42 9 (.slice none 0 c)).run Tryd.prog w = _
      rw [run_convert_bytes_string w 42 9 5 none 0 c Tryd.underlying42 Tryd.underlying5 Tryd.underlying9]
      simp [Conv.bytesToString]; rfl
    | some a => exact run_convert_bytes_back (P := Tryd.prog) w 42 9 5 a c [] Tryd.underlying42 Tryd.underlying5 Tryd.underlying9 (fun j hj => by simp at hj)
theorem ba_app (a b : List UInt8) : (({ data := a.toArray } : ByteArray) ++ { data := b.toArray }) = ⟨(a ++ b).toArray⟩ := by
  apply ByteArray.ext
  simp
theorem RdB.mono' {W W' : World} {ok : Nat → Prop} {v : Value} {bs : List UInt8} (h : RdB W ok v bs) (hk : ∀ (a : Addr) (x : Value), ok a.block → W.cell? a = some x → W'.cell? a = some x) : RdB W' ok v bs := h.kept hk
/-- A sum's bytes as a list. -/
def id32 (f : Nat → UInt8) : List UInt8 := (List.range 32).map f
theorem arr_id32 (f : Nat → UInt8) : (arr 32 fun i => bv (f i)) = ((id32 f).map Extern.Stop.cell).toArray := by
  apply Array.ext_getElem?
  intro i
  rw [arr_get]
  by_cases h : i < 32
  · simp [id32, h]; rfl
  · simp [id32, h]
theorem eql_id (f g : Nat → UInt8) (w : World) : (binOp .eql 37 (.agg (arr 32 fun i => bv (f i))) (.agg (arr 32 fun i => bv (g i)))).run Tryd.prog w = .ok (.bool (id32 f == id32 g)) w := by
  rw [arr_id32, arr_id32]
  exact run_eql_bytes w 37 5 32 Tryd.underlying37 Tryd.underlying5 (size_one (by kernel_rfl)) _ _ (by simp [id32]) (by simp [id32])
/-! ### Nothing of W has turned -/
end Go.Proofs.YtgpbpdjamimbfaaDoor
