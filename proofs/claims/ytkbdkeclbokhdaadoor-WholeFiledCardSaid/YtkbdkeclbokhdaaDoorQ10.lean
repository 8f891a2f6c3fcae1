/-
  Bytes as strings and sums held against each other: small words for the laws' walks. No condition.
  The reference's turn of a word, and its list of constants; for every word of 32 bits, in whatever memory.
  The reference's words: plain mathematics, 32 bits in a uint64, against the standard's words. No condition.
  The reference's sum, the innermost loop: four bytes into a word.
  The reference's sum, the schedule's loop.
  The reference's sum, the loop over the rounds of a block.
  The reference's sum, the two short loops: the state behind a block; a state's bytes.
  The reference's list of constants: in whatever memory.
  A row of bytes of the call's own that may bear the run-time's mark behind its last cell (what '[]byte(s)' makes): appends onto it, whether there is room or not; it as a string. No condition of its own.
  How many blocks bytes have; make of bytes. No condition.
  The reference's filled-up string: for every string of at most 2^40 bytes, in whatever memory.
  The filled-up bytes, cut in blocks of 64, are the standard's blocks.
  The reference's sum of a string: the standard's, for every string of at most 2^40 bytes, in whatever memory.
  The reference's Text, For, Leaf and Node: for whatever sums, texts and lists of texts, in whatever memory.
  The reference's Leaf and Node: for whatever text, whatever two sums, in whatever memory.
-/
import Derived.Test.YtkbdkeclbokhdaaDoorRd
import Derived.Test.YtkbdkeclbokhdaaDoorQ9
import Derived.Stop.BytesEq
import Derived.StillTailTactics
import Derived.Deep.QuietTactic
import Derived.BigQuiet
import Derived.WalkSpells
import Derived.WalkLawsBesides
import Derived.Lib.Hide
import Derived.Lib.SlBytesConst
import Derived.Lib.SmallJoins
import Derived.Deep.AppendSrc
import Derived.Deep.Upon
import Derived.Lib.SlBuf
import Derived.Deep.DeepAppendWide
import Derived.Deep.MidRow
import Derived.Test.YtkbdkeclbokhdaaDoorProg
import Derived.Test.YtkbdkeclbokhdaaDoorOps
import Derived.WalkKit
import Derived.Test.YtkbdkeclbokhdaaDoorMath
import Derived.Outline
import Derived.Test.YtkbdkeclbokhdaaDoorOfT
import Derived.Deep.AppendLies
import Derived.Deep.RegionLaw
namespace Go.Proofs.YtkbdkeclbokhdaaDoor
open Go Go.RowKit Go.Shelf

set_option maxRecDepth 100000 in
theorem str_rd {w : World} {ok : Nat → Prop} {A : Option Addr} {n c : Nat} {bs : List UInt8} (h : RdB w ok (.slice A n c) bs) : (convert 42 9 (.slice A n c)).run Tryd.prog w = .ok (.string ⟨bs.toArray⟩) w := by
  obtain ⟨A', c', e, h1, h2, h3⟩ := h
  injection e with e1 e2 e3
  subst e1; subst e2; subst e3
  by_cases h0 : 0 < bs.length
  · obtain ⟨ad, rfl, _, hc⟩ := h3 h0
    exact run_convert_bytes_back (P := Tryd.prog) w 42 9 5 ad c bs Tryd.underlying42 Tryd.underlying5 Tryd.underlying9 (fun j hj => by
      rw [hc j hj]
      simp [bv, List.getD_eq_getElem?_getD, hj])
  · obtain rfl : bs = [] := List.length_eq_zero_iff.1 (by omega)
    cases A with
    | none =>
      show (convert 42 9 (.slice none 0 c)).run Tryd.prog w = _
      rw [run_convert_bytes_string w 42 9 5 none 0 c Tryd.underlying42 Tryd.underlying5 Tryd.underlying9]
      simp [Conv.bytesToString]; rfl
    | some a => exact run_convert_bytes_back (P := Tryd.prog) w 42 9 5 a c [] Tryd.underlying42 Tryd.underlying5 Tryd.underlying9 (fun j hj => by simp at hj)
theorem RdB.mono' {W W' : World} {ok : Nat → Prop} {v : Value} {bs : List UInt8} (h : RdB W ok v bs) (hk : ∀ (a : Addr) (x : Value), ok a.block → W.cell? a = some x → W'.cell? a = some x) : RdB W' ok v bs := h.kept hk
/-- A sum's bytes as a list. -/
def id32 (f : Nat → UInt8) : List UInt8 := (List.range 32).map f
theorem arr_id32 (f : Nat → UInt8) : (arr 32 fun i => bv (f i)) = ((id32 f).map Extern.Stop.cell).toArray := by
  apply Array.ext_getElem?
  intro i
  rw [arr_get]
  by_cases h : i < 32
  · simp [id32, h]; rfl
  · simp [id32, h]
theorem eql_id (f g : Nat → UInt8) (w : World) : (binOp .eql 37 (.agg (arr 32 fun i => bv (f i))) (.agg (arr 32 fun i => bv (g i)))).run Tryd.prog w = .ok (.bool (id32 f == id32 g)) w := by
  rw [arr_id32, arr_id32]
  exact run_eql_bytes w 37 5 32 Tryd.underlying37 Tryd.underlying5 (size_one (by kernel_rfl)) _ _ (by simp [id32]) (by simp [id32])
/-! ### Nothing of W has turned -/
end Go.Proofs.YtkbdkeclbokhdaaDoor
namespace Go.Proofs.YtkbdkeclbokhdaaDoor
open Go Go.RowKit

/-- A word as the reference has it: 32 bits in a uint64. -/
def u6 (x : W32) : Value := .int .u64 (x.toNat : Int)

end Go.Proofs.YtkbdkeclbokhdaaDoor
namespace Go.Proofs.YtkbdkeclbokhdaaDoor
open Go

/-- A word of a block, its first c bytes read. -/
def part (b : Nat → UInt8) (i : Nat) : Nat → Nat
  | 0 => 0
  | c + 1 => part b i c * 256 + (b (4 * i + c)).toNat
theorem w_lt64 (x : W32) : x.toNat < 18446744073709551616 := by have := x.isLt; omega
theorem xor6 (x y : W32) : bits .xor .u64 (x.toNat : Int) (y.toNat : Int) = ((xo x y).toNat : Int) := by rw [u64_xor_nat _ _ (w_lt64 x) (w_lt64 y), xo, BitVec.toNat_xor]
theorem and6 (x y : W32) : bits .and .u64 (x.toNat : Int) (y.toNat : Int) = ((an x y).toNat : Int) := by rw [u64_and_nat _ _ (w_lt64 x) (w_lt64 y), an, BitVec.toNat_and]
theorem or6 (x y : W32) : bits .or .u64 (x.toNat : Int) (y.toNat : Int) = ((ro x y).toNat : Int) := by rw [u64_or_nat _ _ (w_lt64 x) (w_lt64 y), ro, BitVec.toNat_or]
theorem not6 (x : W32) : (4294967295 - (x.toNat : Int)) = ((no x).toNat : Int) := by
  have := x.isLt
  rw [no, BitVec.toNat_not]
  omega
theorem not6' (x : W32) : IntKind.u64.wrap (4294967295 - (x.toNat : Int)) = ((no x).toNat : Int) := by
  rw [not6, IntKind.wrap_u64]
  have := (no x).isLt
  omega
end Go.Proofs.YtkbdkeclbokhdaaDoor
namespace Go.Proofs.YtkbdkeclbokhdaaDoor
open Go Go.RowKit

end Go.Proofs.YtkbdkeclbokhdaaDoor
namespace Go.Proofs.YtkbdkeclbokhdaaDoor
open Go Go.RowKit
attribute [local go_sem] xor6 and6 or6 shr_w3 shr_w10

end Go.Proofs.YtkbdkeclbokhdaaDoor
namespace Go.Proofs.YtkbdkeclbokhdaaDoor
open Go Go.RowKit
attribute [local go_sem] xor6 and6 or6 not6 not6'

theorem below_drewN {B : Nat} {a w : World} (h : Below B a w) (n : Nat) : Below B a (w.drewN n) := ⟨h.os, h.tape, h.output, h.size, h.block⟩
end Go.Proofs.YtkbdkeclbokhdaaDoor
namespace Go.Proofs.YtkbdkeclbokhdaaDoor
open Go Go.RowKit

end Go.Proofs.YtkbdkeclbokhdaaDoor
namespace Go.Proofs.YtkbdkeclbokhdaaDoor
open Go Go.RowKit

end Go.Proofs.YtkbdkeclbokhdaaDoor
namespace Go.Proofs.YtkbdkeclbokhdaaDoor
open Go Go.RowKit

/-- The row's cells lie from 0 on in block g, as many as the capacity says, none frozen; the first n read as bs. -/
def OwnB (w : World) (base : Nat) (v : Value) (bs : List UInt8) : Prop :=
  ∃ g cap, v = .slice (some ⟨g, 0, none⟩) bs.length cap ∧ base ≤ g ∧ g < w.heap.size ∧ bs.length ≤ cap ∧ cap ≤ maxLen ∧ (∀ j, j < cap → (w.cell? ⟨g, j, none⟩).isSome = true ∧ w.frozen? ⟨g, j, none⟩ = false) ∧
    ∀ j, j < bs.length → w.cell? ⟨g, j, none⟩ = some (bv (bs.getD j 0))
theorem OwnB.rd {w : World} {base : Nat} {v : Value} {bs : List UInt8} (h : OwnB w base v bs) (hm : bs.length ≤ 140737488351232) : RdB w (fun b => base ≤ b ∧ b < w.heap.size) v bs := by
  obtain ⟨g, cap, rfl, h2, h3, h4, h5, h6, h7⟩ := h
  exact rdB_cells h7 rfl h4 hm ⟨h2, h3⟩

variable {P : Program}
section
variable {F : Fence} {n : Nat} {P : Program} {ops : Array Oper} {rest : List Oper} {o : Oper} {a : Act} {w : World} {Q : Exit → Act → World → Prop}
theorem wpListIn_append_run (hF : ∀ f, F.fn f) (hgd : o.guard = none) (s x : Operand) (t t' : TypeId) (ho : o.op = .call { callee := .builtin .append, args := #[s, x], argTypes := #[t, t'] })
    (vs vx : Value) (hs : a.eval s = vs) (hx : a.eval x = vx) (v : Value) (w' : World) (hrun : (Builtin.append_ #[t, t'] o.type #[vs, vx]).run P w = .ok v w')
    (h : wpListIn F n P ops Q rest (a.put o.dst v) w') : wpListIn F n P ops Q (o :: rest) a w := by
  refine wpListIn_plain hgd fun K hK => ?_
  unfold Oper.wpIn
  refine ⟨fun f _ => hF f, ?_⟩
  rw [Oper.semAt_plain F _ _ (by rw [ho]; intro c hc; cases hc)]
  simp [execOp, ho, resolve, invoke, builtin, hs, hx, hrun, Result.andThen]
  exact hK _ _ h
end
/-- '[]byte(s)' of the program's. -/
theorem run_bytes_of (L : List UInt8) (hL : L.length ≤ 1099511627776) (w : World) : ∃ v w', (convert 9 42 (.string ⟨L.toArray⟩)).run Tryd.prog w = .ok v w' ∧ OwnB w' w.heap.size v L ∧ Below w.heap.size w w' := by
  have hrun := run_bytes_of_string (P := Tryd.prog) w 9 42 5 ⟨L.toArray⟩ Tryd.underlying9 Tryd.underlying42 Tryd.underlying5
  have hsz : (⟨L.toArray⟩ : ByteArray).size = L.length := by simp [ByteArray.size]
  rw [hsz] at hrun
  have hge := grownCap_ge w L.length 0 5
  have hle := grownCap_le_maxLen w L.length 0 5 (by unfold maxLen; omega)
  obtain ⟨cap, hcap⟩ : ∃ cap, grownCap w L.length 0 5 = cap := ⟨_, rfl⟩
  rw [hcap] at hrun hge hle
  obtain ⟨C, hC⟩ : ∃ C, bytesRow ⟨L.toArray⟩ cap = C := ⟨_, rfl⟩
  rw [hC] at hrun
  have hCs : C.size = cap := by
    rw [← hC]
    simp [bytesRow, ByteArray.size]
    omega
  have hg : (w.drew.alloc (.cells C 5 (C.size, C.size + 1))).heap[w.heap.size]? = some (.cells C 5 (C.size, C.size + 1)) := heap_alloc_new w.drew _
  obtain ⟨w', hw'⟩ : ∃ w', (w.drew.alloc (.cells C 5 (C.size, C.size + 1))) = w' := ⟨_, rfl⟩
  have hszw : w'.heap.size = w.heap.size + 1 := by rw [← hw']; simp
  have hbw : Below w.heap.size w w' := hw' ▸ (Below.refl _ _).drew.alloc (Nat.le_refl _) _
  rw [hw'] at hrun hg
  have hcell : ∀ j, w'.cell? ⟨w.heap.size, j, none⟩ = C[j]? := fun j => by unfold World.cell?; simp only [hg]; simp
  have hfz : ∀ j, j < cap → w'.frozen? ⟨w.heap.size, j, none⟩ = false := fun j hj => by
    unfold World.frozen?
    simp only [hg]
    simp
    omega
  refine ⟨_, w', hrun, ⟨w.heap.size, cap, rfl, Nat.le_refl _, by omega, hge, hle, fun j hj => ⟨by rw [hcell]; simp [hCs, hj], hfz j hj⟩, fun j hj => ?_⟩, hbw⟩
  rw [hcell, ← hC]
  unfold bytesRow
  rw [Array.getElem?_append_left (by simpa using hj)]
  simp [List.getD_eq_getElem?_getD, List.getElem?_eq_getElem hj, bv]
end Go.Proofs.YtkbdkeclbokhdaaDoor
namespace Go.Proofs.YtkbdkeclbokhdaaDoor
open Go Go.RowKit Go.Shelf

end Go.Proofs.YtkbdkeclbokhdaaDoor
namespace Go.Proofs.YtkbdkeclbokhdaaDoor
open Go Go.RowKit Go.Shelf
attribute [local go_sem] Oper.semAt_some

/-- How many zeros stand between the 128 and the count. -/
def gapZ (n : Nat) : Nat := (119 - n % 64) % 64
def cntBytes (c : Nat) : List UInt8 := (List.range 8).map (cntByte c)
def filled (L : List UInt8) : List UInt8 := L ++ [128] ++ List.replicate (gapZ L.length) 0 ++ cntBytes (L.length * 8)

end Go.Proofs.YtkbdkeclbokhdaaDoor
namespace Go.Proofs.YtkbdkeclbokhdaaDoor
open Go Go.RowKit Go.Shelf

end Go.Proofs.YtkbdkeclbokhdaaDoor
namespace Go.Proofs.YtkbdkeclbokhdaaDoor
open Go Go.RowKit

end Go.Proofs.YtkbdkeclbokhdaaDoor
namespace Go.Proofs.YtkbdkeclbokhdaaDoor
open Go Go.RowKit Go.Shelf

end Go.Proofs.YtkbdkeclbokhdaaDoor
namespace Go.Proofs.YtkbdkeclbokhdaaDoor
open Go Go.RowKit Go.Shelf

end Go.Proofs.YtkbdkeclbokhdaaDoor
