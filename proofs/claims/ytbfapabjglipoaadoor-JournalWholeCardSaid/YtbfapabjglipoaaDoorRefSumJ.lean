/-
  A row of bytes of the call's own that may bear the run-time's mark behind its last cell (what '[]byte(s)' makes): appends onto it, whether there is room or not; it as a string. No condition of its own.
  How many blocks bytes have; make of bytes. No condition.
  The reference's filled-up string: for every string of at most 2^40 bytes, in whatever memory.
  The filled-up bytes, cut in blocks of 64, are the standard's blocks.
  The reference's sum of a string: the standard's, for every string of at most 2^40 bytes, in whatever memory.
  The reference's Text, For, Leaf and Node: for whatever sums, texts and lists of texts, in whatever memory.
  The reference's Leaf and Node: for whatever text, whatever two sums, in whatever memory.
-/
import Derived.Test.YtbfapabjglipoaaDoorRd
import Derived.Test.YtbfapabjglipoaaDoorStrT
import Derived.Deep.AppendSrc
import Derived.Deep.MidRow
import Derived.Deep.Upon
import Derived.Lib.SlBuf
import Derived.Deep.DeepAppendWide
import Derived.Test.YtbfapabjglipoaaDoorOfT
import Derived.Test.YtbfapabjglipoaaDoorRefSha
import Derived.Deep.AppendLies
import Derived.Deep.RegionLaw
namespace Go.Proofs.YtbfapabjglipoaaDoor
open Go Go.RowKit

/-- The row's cells lie from 0 on in block g, as many as the capacity says, none frozen; the first n read as bs. -/
def OwnB (w : World) (base : Nat) (v : Value) (bs : List UInt8) : Prop :=
  ∃ g cap, v = .slice (some ⟨g, 0, none⟩) bs.length cap ∧ base ≤ g ∧ g < w.heap.size ∧ bs.length ≤ cap ∧ cap ≤ maxLen ∧ (∀ j, j < cap → (w.cell? ⟨g, j, none⟩).isSome = true ∧ w.frozen? ⟨g, j, none⟩ = false) ∧
    ∀ j, j < bs.length → w.cell? ⟨g, j, none⟩ = some (bv (bs.getD j 0))
theorem OwnB.rd {w : World} {base : Nat} {v : Value} {bs : List UInt8} (h : OwnB w base v bs) (hm : bs.length ≤ 140737488351232) : RdB w (fun b => base ≤ b ∧ b < w.heap.size) v bs := by
  obtain ⟨g, cap, rfl, h2, h3, h4, h5, h6, h7⟩ := h
  exact rdB_cells h7 rfl h4 hm ⟨h2, h3⟩

variable {P : Program}
section
variable {F : Fence} {n : Nat} {P : Program} {ops : Array Oper} {rest : List Oper} {o : Oper} {a : Act} {w : World} {Q : Exit → Act → World → Prop}
theorem wpListIn_append_run (hF : ∀ f, F.fn f) (hgd : o.guard = none) (s x : Operand) (t t' : TypeId) (ho : o.op = .call { callee := .builtin .append, args := #[s, x], argTypes := #[t, t'] })
    (vs vx : Value) (hs : a.eval s = vs) (hx : a.eval x = vx) (v : Value) (w' : World) (hrun : (Builtin.append_ #[t, t'] o.type #[vs, vx]).run P w = .ok v w')
    (h : wpListIn F n P ops Q rest (a.put o.dst v) w') : wpListIn F n P ops Q (o :: rest) a w := by
  refine wpListIn_plain hgd fun K hK => ?_
  unfold Oper.wpIn
  refine ⟨fun f _ => hF f, ?_⟩
  rw [Oper.semAt_plain F _ _ (by rw [ho]; intro c hc; cases hc)]
  simp [execOp, ho, resolve, invoke, builtin, hs, hx, hrun, Result.andThen]
  exact hK _ _ h
end
/-- '[]byte(s)' of the program's. -/
theorem run_bytes_of (L : List UInt8) (hL : L.length ≤ 1099511627776) (w : World) : ∃ v w', (convert 9 42 (.string ⟨L.toArray⟩)).run Tryd.prog w = .ok v w' ∧ OwnB w' w.heap.size v L ∧ Below w.heap.size w w' := by
  have hrun := run_bytes_of_string (P := Tryd.prog) w 9 42 5 ⟨L.toArray⟩ Tryd.underlying9 Tryd.underlying42 Tryd.underlying5
  have hsz : (⟨L.toArray⟩ : ByteArray).size = L.length := by simp [ByteArray.size]
  rw [hsz] at hrun
  have hge := grownCap_ge w L.length 0 5
  have hle := grownCap_le_maxLen w L.length 0 5 (by unfold maxLen; omega)
  obtain ⟨cap, hcap⟩ : ∃ cap, grownCap w L.length 0 5 = cap := ⟨_, rfl⟩
  rw [hcap] at hrun hge hle
  obtain ⟨C, hC⟩ : ∃ C, bytesRow ⟨L.toArray⟩ cap = C := ⟨_, rfl⟩
  rw [hC] at hrun
  have hCs : C.size = cap := by
    rw [← hC]
    simp [bytesRow, ByteArray.size]
    omega
  have hg : (w.drew.alloc (.cells C 5 (C.size, C.size + 1))).heap[w.heap.size]? = some (.cells C 5 (C.size, C.size + 1)) := heap_alloc_new w.drew _
  obtain ⟨w', hw'⟩ : ∃ w', (w.drew.alloc (.cells C 5 (C.size, C.size + 1))) = w' := ⟨_, rfl⟩
  have hszw : w'.heap.size = w.heap.size + 1 := by rw [← hw']; simp
  have hbw : Below w.heap.size w w' := hw' ▸ (Below.refl _ _).drew.alloc (Nat.le_refl _) _
  rw [hw'] at hrun hg
  have hcell : ∀ j, w'.cell? ⟨w.heap.size, j, none⟩ = C[j]? := fun j => by unfold World.cell?; simp only [hg]; simp
  have hfz : ∀ j, j < cap → w'.frozen? ⟨w.heap.size, j, none⟩ = false := fun j hj => by
    unfold World.frozen?
    simp only [hg]
    simp
    omega
  refine ⟨_, w', hrun, ⟨w.heap.size, cap, rfl, Nat.le_refl _, by omega, hge, hle, fun j hj => ⟨by rw [hcell]; simp [hCs, hj], hfz j hj⟩, fun j hj => ?_⟩, hbw⟩
  rw [hcell, ← hC]
  unfold bytesRow
  rw [Array.getElem?_append_left (by simpa using hj)]
  simp [List.getD_eq_getElem?_getD, List.getElem?_eq_getElem hj, bv]
end Go.Proofs.YtbfapabjglipoaaDoor
namespace Go.Proofs.YtbfapabjglipoaaDoor
open Go Go.RowKit Go.Shelf

end Go.Proofs.YtbfapabjglipoaaDoor
namespace Go.Proofs.YtbfapabjglipoaaDoor
open Go Go.RowKit Go.Shelf
attribute [local go_sem] Oper.semAt_some

/-- How many zeros stand between the 128 and the count. -/
def gapZ (n : Nat) : Nat := (119 - n % 64) % 64
def cntBytes (c : Nat) : List UInt8 := (List.range 8).map (cntByte c)
def filled (L : List UInt8) : List UInt8 := L ++ [128] ++ List.replicate (gapZ L.length) 0 ++ cntBytes (L.length * 8)

end Go.Proofs.YtbfapabjglipoaaDoor
namespace Go.Proofs.YtbfapabjglipoaaDoor
open Go Go.RowKit Go.Shelf

end Go.Proofs.YtbfapabjglipoaaDoor
namespace Go.Proofs.YtbfapabjglipoaaDoor
open Go Go.RowKit

end Go.Proofs.YtbfapabjglipoaaDoor
namespace Go.Proofs.YtbfapabjglipoaaDoor
open Go Go.RowKit Go.Shelf

end Go.Proofs.YtbfapabjglipoaaDoor
namespace Go.Proofs.YtbfapabjglipoaaDoor
open Go Go.RowKit Go.Shelf

end Go.Proofs.YtbfapabjglipoaaDoor
