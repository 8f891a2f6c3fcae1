/-
  Layer 14's laws: what they share. No condition.
-/
import Derived.Test.YtclhfokflagopaaRndAgs
import Derived.Test.YtclhfokflagopaaRndMQuiet
namespace Go.Proofs.Ytclhfokflagopaa
open Go Go.RowKit Go.Maps

/-- There is such a way: so many voters, such a one of them, such a height. -/
def CanR (v me hh : Int) : Prop := 0 ≤ faults v ∧ 0 ≤ me ∧ me < v ∧ 0 ≤ hh
theorem newR_bad (v me hh : Int) (W : World) (h : ¬ CanR v me hh) : Calls Try.prog 33 #[.int .i64 v, .int .i64 me, .int .i64 hh] W fun e w' => e = .returned (.tuple #[.pointer none, .int .i64 1]) ∧ Below W.heap.size W w' := by
  unfold CanR at h
  by_cases hf : faults v < 0
  · exact newR_none v me hh W hf
  · by_cases h1 : me < 0
    · exact newR_low v me hh W (by omega) h1
    · by_cases h2 : v ≤ me
      · exact newR_high v me hh W (by omega) h1 h2
      · exact newR_under v me hh W (by omega) h1 h2 (by omega)
theorem RoundAt.good {W : World} {B C M n : Nat} {kv : Value} {s : RdS} (h : RoundAt W B C M n kv s) : GoodS s := ⟨h.ok, fun r k q x hx => h.cnt.ids r k q x hx⟩
/-- On a law's way: one's state behind j things that came. -/
def LawR (w : World) (B C M j : Nat) (s : RdS) (wr : World) : Prop := ∃ n kv, RoundAt wr B C M n kv s ∧ n ≤ 202 * j ∧ Below w.heap.size w wr ∧ (∀ g, kv.ownBlock = some g → w.heap.size ≤ g)
theorem LawR.base {w : World} {B C M j : Nat} {s : RdS} {wr : World} (h : LawR w B C M j s wr) : Below w.heap.size w wr := by
  obtain ⟨n, kv, h1, h2, h3, h4⟩ := h
  exact h3
theorem LawR.good {w : World} {B C M j : Nat} {s : RdS} {wr : World} (h : LawR w B C M j s wr) : GoodS s := by
  obtain ⟨n, kv, h1, h2, h3, h4⟩ := h
  exact h1.good
/-- A new way. -/
theorem newR_law (v me hh : Int) (W : World) (h : CanR v me hh) (hw : wfi hh) (w : World) (hb : Below w.heap.size w W) : Calls Try.prog 33 #[.int .i64 v, .int .i64 me, .int .i64 hh] W fun e w' => ∃ B C M, e = .returned (.tuple #[.pointer (some ⟨B, 0, none⟩), .int .i64 0]) ∧ LawR w B C M 0 (newS v.toNat me hh) w' ∧ (w.heap.size ≤ B ∧ w.heap.size ≤ M) ∧ W.heap.size ≤ B ∧ W.heap.size ≤ C ∧ W.heap.size ≤ M ∧ Below W.heap.size W w' :=
  (newR_good v me hh W h.1 (by have := h.2.1; omega) (by have := h.2.2.1; omega) (by have := h.2.2.2; omega) hw).mono fun e w' ⟨B, C, M, h1, h2, h3, h4, h5, h6⟩ => ⟨B, C, M, h1, ⟨0, _, h2, by omega, hb.trans (h3.mono hb.size), fun g e => by cases e⟩, ⟨Nat.le_trans hb.size h4, Nat.le_trans hb.size h6⟩, h4, h5, h6, h3⟩
section
variable {ops : Array Oper} {rest : List Oper} {o : Oper} {a : Act} {w : World} {Q : Exit → Act → World → Prop}
theorem wpList_store_actL (hgd : o.guard = none) (x y : Operand) (ho : o.op = .store 71 x y) (g : Nat) (v : ActS) (hx : a.eval x = .pointer (some ⟨g, 0, none⟩)) (hy : a.eval y = .agg (actA v)) (hv : ActOk v)
    (t : TypeId) (old : Array Value) (hg : Blk w g t old) (hold : old.size = 36)
    (h : ∀ w', Blk w' g t (actA v) → w'.heap.size = w.heap.size → Below g w w' → (∀ b, b ≠ g → w'.heap[b]? = w.heap[b]?) → wpList Try.prog ops Q rest (a.put o.dst undef) w') : wpList Try.prog ops Q (o :: rest) a w :=
  wpList_store_arrW hgd 71 x y ho g (actA v) hx hy t old hg (by rw [actA_size hv]; exact act_info) (by rw [actA_size hv]; exact hold) (actA_one v) h
end
set_option maxRecDepth 100000 in
theorem load_inn {W : World} {g t : Nat} {v : InS} (h : Blk W g t (innA v)) (hv : InSOk v) : (Instr.loadAt 67 (.pointer (some ⟨g, 0, none⟩))).run Try.prog W = .ok (.agg (innA v)) W := run_loadVar_row W g t 67 (innA v) (0, 0) _ h Try.underlying67 rfl (by rw [innA_size hv]; exact inn_info)
theorem OwnA.rd {b : Nat} {w : World} {v : Value} {l : List ActS} (h : OwnA b w v l) : RdA w w.heap.size v l := rdA_own h.2.2 h.1 rfl (by have := h.2.1; omega)
theorem take_fold {γ : Type} (up : γ → ActS → γ) {l : List ActS} {k : Nat} {x : ActS} (hx : l[k]? = some x) (g : γ) : (l.take (k + 1)).foldl up g = up ((l.take k).foldl up g) x := by
  rw [List.take_add_one, hx, List.foldl_append]
  rfl
end Go.Proofs.Ytclhfokflagopaa
