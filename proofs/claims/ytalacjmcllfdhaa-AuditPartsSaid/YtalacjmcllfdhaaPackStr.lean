/-
  Bytes as strings, IDs held against each other, messages as they lie in memory: nothing here names a function of the program. No condition.
-/
import Derived.Test.YtalacjmcllfdhaaRd
import Derived.Test.YtalacjmcllfdhaaBlk
import Derived.WalkKit
import Derived.Deep.LoopGhost
import Derived.Laws.AppendOwn
import Derived.Test.YtalacjmcllfdhaaProg
import Derived.Below
import Derived.IntWalk
import Derived.KernelRfl
import Derived.WalkLawsBesides
import Derived.StillTailTactics
import Derived.Deep.QuietTactic
import Derived.WalkSpells
import Derived.Lib.Hide
import Derived.Stop.BytesEq
import Derived.Deep.MidRow
namespace Go.Proofs.Ytalacjmcllfdhaa
open Go Go.RowKit Go.Shelf

set_option maxRecDepth 100000 in
theorem str_rd {w : World} {ok : Nat → Prop} {A : Option Addr} {n c : Nat} {bs : List UInt8} (h : RdB w ok (.slice A n c) bs) : (convert 43 9 (.slice A n c)).run Try.prog w = .ok (.string ⟨bs.toArray⟩) w := by
  obtain ⟨A', c', e, h1, h2, h3⟩ := h
  injection e with e1 e2 e3
  subst e1; subst e2; subst e3
  by_cases h0 : 0 < bs.length
  · obtain ⟨ad, rfl, _, hc⟩ := h3 h0
    exact run_convert_bytes_back (P := Try.prog) w 43 9 5 ad c bs Try.underlying43 Try.underlying5 Try.underlying9 (fun j hj => by
      rw [hc j hj]
      simp [bv, List.getD_eq_getElem?_getD, hj])
  · obtain rfl : bs = [] := List.length_eq_zero_iff.1 (by omega)
    cases A with
    | none =>
      show (convert 43 9 (.slice none 0 c)).run Try.prog w = _
      rw [run_convert_bytes_string w 43 9 5 none 0 c Try.underlying43 Try.underlying5 Try.underlying9]
      simp [Conv.bytesToString]; rfl
    | some a => exact run_convert_bytes_back (P := Try.prog) w 43 9 5 a c [] Try.underlying43 Try.underlying5 Try.underlying9 (fun j hj => by simp at hj)
theorem ba_len (l : List UInt8) : (⟨l.toArray⟩ : ByteArray).size = l.length := by simp [ByteArray.size]
theorem ba_inj {a b : List UInt8} (h : (⟨a.toArray⟩ : ByteArray) = ⟨b.toArray⟩) : a = b := by
  injection h with h
  simpa using h
/-! ### Messages as they lie -/
theorem RdP.mono {W : World} {ok ok' : Nat → Prop} {A : Option Addr} {ps : List (List UInt8)} (h : RdP W ok A ps) (hm : ∀ b, ok b → ok' b) : RdP W ok' A ps := fun k hlt => by
  obtain ⟨ad, v, hA, hok, hc, hr⟩ := h k hlt
  exact ⟨ad, v, hA, hm _ hok, hc, hr.mono hm⟩
end Go.Proofs.Ytalacjmcllfdhaa
