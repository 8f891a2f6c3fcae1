/-
  Several ways to agreement beside each other in memory: what one of them does leaves the others, and all else, as they are. No condition.
-/
import Derived.Test.YtbgojlcciealiaaRndCall
import Derived.Test.YtbgojlcciealiaaRndLaw
namespace Go.Proofs.Ytbgojlcciealiaa
open Go Go.RowKit Go.Maps

/-- One's way to agreement, and where it lies. -/
structure RB where
  B : Nat
  C : Nat
  M : Nat
  n : Nat
  kv : Value
  s : RdS
def RB.has (x : RB) (g : Nat) : Prop := g = x.B ∨ g = x.C ∨ g = x.M ∨ x.kv.ownBlock = some g
def RB.At (x : RB) (W : World) : Prop := RoundAt W x.B x.C x.M x.n x.kv x.s
theorem RB.At.lt {x : RB} {W : World} (h : x.At W) {g : Nat} (hg : x.has g) : g < W.heap.size := by
  rcases hg with rfl | rfl | rfl | e
  · exact RoundAt.lt h
  · exact h.cnt.ltB
  · exact h.cnt.ltM
  · exact (h.own.lt g e).2
theorem RB.At.keep {x : RB} {W W' : World} (h : x.At W) (hk : ∀ g, x.has g → W'.heap[g]? = W.heap[g]?) : x.At W' := by
  refine ⟨?_, h.cnt.same (hk _ (.inr (.inl rfl))) (hk _ (.inr (.inr (.inl rfl)))), ⟨h.own.1, ?_⟩, h.ok⟩
  · have h1 := h.blk
    unfold Blk at h1 ⊢
    rw [hk _ (.inl rfl)]
    exact h1
  · rcases h.own.2 with hn | ⟨g, cap, cur, hv, hb, hgg, rest⟩
    · exact .inl hn
    · refine .inr ⟨g, cap, cur, hv, hb, ?_, rest⟩
      rw [hk g (.inr (.inr (.inr (by rw [hv]; rfl))))]
      exact hgg
/-- Several beside each other, all in blocks from b on. -/
structure HallAt (b : Nat) (W : World) (l : List RB) : Prop where
  at_ : ∀ (i : Nat) (x : RB), l[i]? = some x → x.At W
  apart : ∀ (i j : Nat) (x y : RB), l[i]? = some x → l[j]? = some y → i ≠ j → ∀ g, x.has g → ¬ y.has g
  low : ∀ (i : Nat) (x : RB), l[i]? = some x → ∀ g, x.has g → b ≤ g
/-- A block that is none of theirs. -/
def Out (l : List RB) (g : Nat) : Prop := ∀ (i : Nat) (x : RB), l[i]? = some x → ¬ x.has g
/-- All else is as it was. -/
structure Kept (l : List RB) (W W' : World) : Prop where
  os : W'.os = W.os
  tape : W'.tape = W.tape
  output : W'.output = W.output
  size : W.heap.size ≤ W'.heap.size
  block : ∀ g, g < W.heap.size → Out l g → W'.heap[g]? = W.heap[g]?
theorem HallAt.keep {b : Nat} {W W' : World} {l : List RB} (h : HallAt b W l) (hk : ∀ (i : Nat) (x : RB), l[i]? = some x → ∀ g, x.has g → W'.heap[g]? = W.heap[g]?) : HallAt b W' l :=
  ⟨fun i x hx => (h.at_ i x hx).keep (hk i x hx), h.apart, h.low⟩
theorem HallAt.below {b : Nat} {W W' : World} {l : List RB} (h : HallAt b W l) (hb : Below W.heap.size W W') : HallAt b W' l :=
  h.keep fun i x hx g hg => hb.block g ((h.at_ i x hx).lt hg)
theorem HallAt.lt {b : Nat} {W : World} {l : List RB} (h : HallAt b W l) {g : Nat} (hg : ¬ g < W.heap.size) : Out l g := fun i x hx hh => hg ((h.at_ i x hx).lt hh)
theorem hall_nil (b : Nat) (W : World) : HallAt b W [] := ⟨fun _ _ h => by simp at h, fun _ _ _ _ h => by simp at h, fun _ _ h => by simp at h⟩
/-- One more. -/
theorem HallAt.add {b : Nat} {W W' : World} {l : List RB} (h : HallAt b W l) (hb : Below W.heap.size W W') (hw : b ≤ W.heap.size) {B C M n : Nat} {s : RdS} (hr : RoundAt W' B C M n (.slice none 0 0) s) (h1 : W.heap.size ≤ B) (h2 : W.heap.size ≤ C) (h3 : W.heap.size ≤ M) : HallAt b W' (l ++ [⟨B, C, M, n, .slice none 0 0, s⟩]) := by
  have hn : ∀ g, (RB.mk B C M n (.slice none 0 0) s).has g → W.heap.size ≤ g := fun g hg => by
    rcases hg with rfl | rfl | rfl | e
    · exact h1
    · exact h2
    · exact h3
    · cases e
  have hget : ∀ (i : Nat) (x : RB), (l ++ [RB.mk B C M n (.slice none 0 0) s])[i]? = some x → (l[i]? = some x ∧ i < l.length) ∨ (i = l.length ∧ x = ⟨B, C, M, n, .slice none 0 0, s⟩) := fun i x hx => by
    by_cases hi : i < l.length
    · rw [List.getElem?_append_left hi] at hx
      exact .inl ⟨hx, hi⟩
    · rw [List.getElem?_append_right (by omega)] at hx
      by_cases he : i = l.length
      · rw [he, Nat.sub_self] at hx
        exact .inr ⟨he, (Option.some.inj hx).symm⟩
      · rw [List.getElem?_eq_none (by simp; omega)] at hx
        cases hx
  refine ⟨fun i x hx => ?_, fun i j x y hx hy hij g hg hg2 => ?_, fun i x hx g hg => ?_⟩
  · rcases hget i x hx with ⟨hx, _⟩ | ⟨_, rfl⟩
    · exact (h.below hb).at_ i x hx
    · exact hr
  · rcases hget i x hx with ⟨hx, hi⟩ | ⟨hi, rfl⟩ <;> rcases hget j y hy with ⟨hy, hj⟩ | ⟨hj, rfl⟩
    · exact h.apart i j x y hx hy hij g hg hg2
    · have := (h.at_ i x hx).lt hg
      have := hn g hg2
      omega
    · have := (h.at_ j y hy).lt hg2
      have := hn g hg
      omega
    · omega
  · rcases hget i x hx with ⟨hx, _⟩ | ⟨_, rfl⟩
    · exact h.low i x hx g hg
    · exact Nat.le_trans hw (hn g hg)
theorem set_get {l : List RB} {k j : Nat} {x y : RB} (h : (l.set k x)[j]? = some y) : (j = k ∧ y = x) ∨ (j ≠ k ∧ l[j]? = some y) := by
  rw [List.getElem?_set] at h
  by_cases hj : k = j
  · rw [if_pos hj] at h
    by_cases hl : k < l.length
    · rw [if_pos hl] at h
      exact .inl ⟨hj.symm, (Option.some.inj h).symm⟩
    · rw [if_neg hl] at h
      cases h
  · rw [if_neg hj] at h
    exact .inr ⟨fun e => hj e.symm, h⟩
theorem RB.has_new {x : RB} {n' : Nat} {kv' : Value} {s' : RdS} {W W' : World} (hc : Chg W W' x.B x.M x.kv kv') {g : Nat} (hg : (RB.mk x.B x.C x.M n' kv' s').has g) : x.has g ∨ W.heap.size ≤ g := by
  rcases hg with e | e | e | e
  · exact .inl (.inl e)
  · exact .inl (.inr (.inl e))
  · exact .inl (.inr (.inr (.inl e)))
  · have e1 : kv'.ownBlock = some g := e
    rcases hc.row with hr | ⟨g', hr, hg'⟩
    · exact .inl (.inr (.inr (.inr (hr ▸ e1))))
    · rw [hr] at e1
      have := Option.some.inj e1
      exact .inr (by omega)
/-- One of them does something. -/
theorem HallAt.chg {b : Nat} {W W' : World} {l : List RB} (h : HallAt b W l) (hw : b ≤ W.heap.size) {k : Nat} {x : RB} (hk : l[k]? = some x) {n' : Nat} {kv' : Value} {s' : RdS} (hr : RoundAt W' x.B x.C x.M n' kv' s') (hc : Chg W W' x.B x.M x.kv kv') :
    HallAt b W' (l.set k ⟨x.B, x.C, x.M, n', kv', s'⟩) ∧ Kept l W W' ∧ ∀ g, g < W.heap.size → Out l g → Out (l.set k ⟨x.B, x.C, x.M, n', kv', s'⟩) g := by
  refine ⟨⟨fun i y hy => ?_, fun i j y z hy hz hij g hg hg2 => ?_, fun i y hy g hg => ?_⟩, ⟨hc.os, hc.tape, hc.output, hc.size, fun g hg ho => ?_⟩, fun g hg ho i y hy hh => ?_⟩
  · rcases set_get hy with ⟨_, rfl⟩ | ⟨hi, hy⟩
    · exact hr
    · have hat := h.at_ i y hy
      refine hat.keep fun g hg => hc.block g (hat.lt hg) (fun e => ?_) (fun e => ?_) (fun e => ?_)
      · exact h.apart i k y x hy hk hi g hg (.inl e)
      · exact h.apart i k y x hy hk hi g hg (.inr (.inr (.inl e)))
      · exact h.apart i k y x hy hk hi g hg (.inr (.inr (.inr e.symm)))
  · rcases set_get hy with ⟨hi, rfl⟩ | ⟨hi, hy⟩ <;> rcases set_get hz with ⟨hj, rfl⟩ | ⟨hj, hz⟩
    · omega
    · rcases RB.has_new hc hg with hg | hg
      · exact h.apart k j x z hk hz (by omega) g hg hg2
      · have := (h.at_ j z hz).lt hg2
        omega
    · rcases RB.has_new hc hg2 with hg2 | hg2
      · exact h.apart i k y x hy hk (by omega) g hg hg2
      · have := (h.at_ i y hy).lt hg
        omega
    · exact h.apart i j y z hy hz hij g hg hg2
  · rcases set_get hy with ⟨_, rfl⟩ | ⟨hi, hy⟩
    · rcases RB.has_new hc hg with hg | hg
      · exact h.low k x hk g hg
      · omega
    · exact h.low i y hy g hg
  · exact hc.block g hg (fun e => ho k x hk (.inl e)) (fun e => ho k x hk (.inr (.inr (.inl e)))) (fun e => ho k x hk (.inr (.inr (.inr e.symm))))
  · rcases set_get hy with ⟨_, rfl⟩ | ⟨_, hy⟩
    · rcases RB.has_new hc hh with hh | hh
      · exact ho k x hk hh
      · omega
    · exact ho i y hy hh
theorem HallAt.good {b : Nat} {W : World} {l : List RB} (h : HallAt b W l) {k : Nat} {x : RB} (hk : l[k]? = some x) : GoodS x.s := RoundAt.good (h.at_ k x hk)
end Go.Proofs.Ytbgojlcciealiaa
