/-
  What the count of votes lies in: its struct and its map; IDs as values; the key of a vote. No condition.
-/
import Derived.Test.YtpjeildiahklpaaMapV
import Derived.Test.YtpjeildiahklpaaCntMath
import Derived.Test.YtpjeildiahklpaaSeqD
import Derived.Test.YtpjeildiahklpaaOps
import Derived.Test.YtpjeildiahklpaaProg
import Derived.Lib.Hide
import Derived.Stop.BytesEq
import Derived.WalkKit
import Derived.WalkMore
import Derived.Below
namespace Go.Proofs.Ytpjeildiahklpaa
open Go Go.RowKit Go.Maps

/-- An ID as a value. -/
def idv (l : List UInt8) : Value := .agg (l.map Extern.Stop.cell).toArray
def IdOk (l : List UInt8) : Prop := l.length = 32
theorem zeroId_ok : IdOk zeroId := by unfold IdOk zeroId; simp
theorem cnt_size1 (w : World) : (sizeOf 5).run Try.prog w = .ok 1 w := size_one (by kernel_rfl) w
theorem eql_idv {l m : List UInt8} (hl : IdOk l) (hm : IdOk m) (w : World) : (binOp .eql 24 (idv l) (idv m)).run Try.prog w = .ok (.bool (l == m)) w :=
  run_eql_bytes w 24 5 32 Try.underlying24 Try.underlying5 cnt_size1 _ _ hl hm
theorem zero_idv (w : World) : (zeroValue 24).run Try.prog w = .ok (idv zeroId) w := by kernel_rfl
theorem idv_cells (l : List UInt8) : (idv l).cells = (l.map Extern.Stop.cell).toArray := rfl
theorem idv_inj {l m : List UInt8} (h : idv l = idv m) : l = m := by
  unfold idv at h
  injection h with h
  have h2 := congrArg Array.toList h
  simp only at h2
  refine List.map_inj_right (fun a b hab => ?_) |>.1 h2
  unfold Extern.Stop.cell at hab
  injection hab with _ hab
  exact UInt8.toNat_inj.1 (Int.ofNat.inj hab)
/-! The key of a vote. -/
def keyV (r k s : Int) : Value := .agg #[.int .i64 r, .int .i64 k, .int .i64 s]
def wfi (n : Int) : Prop := (Lit.int .i64 n).wf = true
theorem cnt_laid : laidOutB Try.prog = true := by kernel_rfl
theorem cnt_row : (117 : TypeId) < Try.prog.types.size := of_decide_eq_true (by kernel_rfl)
theorem cnt_wide : (match Try.prog.underlying 117 with | some (.array _ _) | some (.struct _) => true | _ => false) = true := by kernel_rfl
set_option maxRecDepth 100000 in
theorem cnt_law : Keyed Try.prog 117 := Keyed.of_law (deep_law_laid cnt_laid (m := 2) (by omega) cnt_row (by kernel_rfl) cnt_wide)
theorem cnt_keyType : Try.prog.keyType 117 = true := by kernel_rfl
theorem cnt_cells : Try.prog.cellsOf 117 = 3 := by kernel_rfl
theorem cnt_cells1 : Try.prog.cellsOf 3 = 1 := by kernel_rfl
theorem cnt_types : ∃ m, Try.prog.types.size = m + 1 := ⟨Try.prog.types.size - 1, by have : 0 < Try.prog.types.size := of_decide_eq_true (by kernel_rfl); omega⟩
theorem keyV_some {r k s : Int} (hr : wfi r) (hk : wfi k) (hs : wfi s) : ∃ kl, keyOf Try.prog 117 (keyV r k s) = some kl := by
  unfold wfi at hr hk hs
  obtain ⟨m, hm⟩ := cnt_types
  have hu := Try.underlying117
  refine ⟨.string (keyBytes [.int .i64 r, .int .i64 k, .int .i64 s]), ?_⟩
  unfold keyOf keyV
  simp only [hu]
  rw [if_pos (by simp [cnt_keyType, Value.formed, hu, cnt_cells]), hm]
  unfold Program.keyLits
  simp only [hu, Value.cells]
  rw [if_pos ⟨by rw [cnt_cells]; rfl, by simp⟩]
  simp [List.mapM_cons, Program.keyLits, Try.underlying3, cnt_cells1, hr, hk, hs]
theorem keyV_ne {r k s r' k' s' : Int} (h : ¬ (r' = r ∧ k' = k ∧ s' = s)) : keyV r' k' s' ≠ keyV r k s := by
  intro e
  unfold keyV at e
  injection e with e
  have := congrArg Array.toList e
  simp only [List.cons.injEq, Value.int.injEq, true_and, and_true] at this
  exact h this
/-- The map in block M, of at most n entries, holds the votes V. -/
def VotesAt (W : World) (M n : Nat) (V : Vt) : Prop := ∃ T, MapV Try.prog 117 W M n T ∧ ∀ r k s, T (keyV r k s) = (V r k s).map idv
/-- A count in block B: so many voters, and the votes V, all of them IDs. -/
structure CountAt (W : World) (B M n : Nat) (N : Int) (V : Vt) : Prop where
  blk : Blk W B 113 #[.int .i64 N, .map (some M)]
  votes : VotesAt W M n V
  ids : ∀ r k s x, V r k s = some x → IdOk x ∧ x ≠ zeroId
theorem CountAt.same {W W' : World} {B M n : Nat} {N : Int} {V : Vt} (h : CountAt W B M n N V) (hB : W'.heap[B]? = W.heap[B]?) (hM : W'.heap[M]? = W.heap[M]?) : CountAt W' B M n N V := by
  obtain ⟨h1, ⟨T, h2, h3⟩, h4⟩ := h
  refine ⟨?_, ⟨T, h2.same hM, h3⟩, h4⟩
  unfold Blk at h1 ⊢
  rw [hB]
  exact h1
theorem CountAt.ltB {W : World} {B M n : Nat} {N : Int} {V : Vt} (h : CountAt W B M n N V) : B < W.heap.size := h.blk.lt
theorem CountAt.ltM {W : World} {B M n : Nat} {N : Int} {V : Vt} (h : CountAt W B M n N V) : M < W.heap.size := by
  obtain ⟨_, ⟨T, h2, _⟩, _⟩ := h
  exact h2.lt
theorem CountAt.below {W W' : World} {B M n : Nat} {N : Int} {V : Vt} (h : CountAt W B M n N V) (hb : Below W.heap.size W W') : CountAt W' B M n N V := h.same (hb.block _ h.ltB) (hb.block _ h.ltM)
theorem CountAt.cell0 {W : World} {B M n : Nat} {N : Int} {V : Vt} (h : CountAt W B M n N V) : W.cell? ⟨B, 0, none⟩ = some (.int .i64 N) := by rw [h.blk.cell]; rfl
theorem CountAt.cell1 {W : World} {B M n : Nat} {N : Int} {V : Vt} (h : CountAt W B M n N V) : W.cell? ⟨B, 1, none⟩ = some (.map (some M)) := by rw [h.blk.cell]; rfl
end Go.Proofs.Ytpjeildiahklpaa
