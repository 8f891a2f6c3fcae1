/-
  Layer 14's laws: one's state beside blocks of the law's own. No condition.
-/
import Derived.Test.YtclhfokflagopaaRndLaw
namespace Go.Proofs.Ytclhfokflagopaa
open Go Go.RowKit Go.Maps

/-- On a law's way: one's state behind j things that came, and blocks X that are not its own. -/
def LawX (w : World) (B C M j : Nat) (s : RdS) (X : List Nat) (wr : World) : Prop := ∃ n kv, RoundAt wr B C M n kv s ∧ n ≤ 202 * j ∧ Below w.heap.size w wr ∧ (∀ g, kv.ownBlock = some g → w.heap.size ≤ g) ∧ ∀ g ∈ X, g < wr.heap.size ∧ w.heap.size ≤ g ∧ g ≠ B ∧ g ≠ C ∧ g ≠ M ∧ kv.ownBlock ≠ some g
theorem LawR.x {w : World} {B C M j : Nat} {s : RdS} {wr : World} (h : LawR w B C M j s wr) : LawX w B C M j s [] wr := by
  obtain ⟨n, kv, h1, h2, h3, h4⟩ := h
  exact ⟨n, kv, h1, h2, h3, h4, fun g hg => by cases hg⟩
theorem LawX.law {w : World} {B C M j : Nat} {s : RdS} {X : List Nat} {wr : World} (h : LawX w B C M j s X wr) : LawR w B C M j s wr := by
  obtain ⟨n, kv, h1, h2, h3, h4, _⟩ := h
  exact ⟨n, kv, h1, h2, h3, h4⟩
theorem LawX.le {w : World} {B C M j k : Nat} {s : RdS} {X : List Nat} {wr : World} (h : LawX w B C M j s X wr) (hk : j ≤ k) : LawX w B C M k s X wr := by
  obtain ⟨n, kv, h1, h2, h3, h4, h5⟩ := h
  exact ⟨n, kv, h1, by omega, h3, h4, h5⟩
theorem LawX.below {w : World} {B C M j : Nat} {s : RdS} {X : List Nat} {wr w' : World} (h : LawX w B C M j s X wr) (hb : Below wr.heap.size wr w') : LawX w B C M j s X w' := by
  obtain ⟨n, kv, h1, h2, h3, h4, h5⟩ := h
  exact ⟨n, kv, h1.below hb, h2, h3.trans (hb.mono h3.size), h4, fun g hg => ⟨Nat.lt_of_lt_of_le (h5 g hg).1 hb.size, (h5 g hg).2⟩⟩
/-- A block of the law's own is written. -/
theorem LawX.grown {w : World} {B C M j : Nat} {s : RdS} {X : List Nat} {wr w' : World} (h : LawX w B C M j s X wr) {g : Nat} (hg : g ∈ X) (hb : wr.grownBy w' (some g)) : LawX w B C M j s X w' := by
  obtain ⟨n, kv, k1, k2, k3, k4, k5⟩ := h
  obtain ⟨q0, q1, q2, q3, q4, q5⟩ := k5 g hg
  have ne : ∀ x, g ≠ x → some x ≠ some g := fun x hx e => hx (Option.some.inj e).symm
  refine ⟨n, kv, ⟨k1.blk.grown hb (ne B q2), k1.cnt.same (hb.block C k1.cnt.ltB (ne C q3)) (hb.block M k1.cnt.ltM (ne M q4)), k1.own.kept hb (.inr q5), k1.ok⟩, k2, k3.trans ?_, k4, fun x hx => ⟨Nat.lt_of_lt_of_le (k5 x hx).1 hb.size, (k5 x hx).2⟩⟩
  exact ⟨hb.os, hb.tape, hb.output, hb.size, fun k hk => hb.block k (Nat.lt_of_lt_of_le hk k3.size) (ne k (by omega))⟩
/-- Something comes: blocks of the law's own are as they were. -/
theorem LawX.give {w : World} {B C M j : Nat} {s : RdS} {X : List Nat} {wr : World} (h : LawX w B C M j s X wr) (hBM : w.heap.size ≤ B ∧ w.heap.size ≤ M) (hj : j ≤ 1000) (i : InS) (hi : InSOk i) (h6 : i.kind ≠ 6) : Calls Try.prog 34 #[.pointer (some ⟨B, 0, none⟩), .agg (innA i)] wr fun e w' => ∃ v, e = .returned v ∧ OwnA wr.heap.size w' v (giveA s i) ∧ LawX w B C M (j + 1) (giveS s i) X w' ∧ ∀ g ∈ X, w'.heap[g]? = wr.heap[g]? := by
  obtain ⟨n, kv, h1, h2, h3, h4, h5⟩ := h
  refine (give_any h1 i hi (by unfold maxLen; omega) h6).mono fun e w' ⟨kv', ⟨v, h6, h7⟩, h8, h9⟩ => ?_
  obtain ⟨h10, h11⟩ := h9.belowN h3 h3.size hBM.1 hBM.2 h4
  refine ⟨v, h6, h7, ⟨n + 202, kv', h8, by omega, h10, h11, fun g hg => ?_⟩, fun g hg => ?_⟩
  · obtain ⟨q0, q1, q2, q3, q4, q5⟩ := h5 g hg
    refine ⟨Nat.lt_of_lt_of_le q0 h9.size, q1, q2, q3, q4, fun e => ?_⟩
    rcases h9.row with hr | ⟨g', hr, hg'⟩
    · exact q5 (hr ▸ e)
    · rw [hr] at e
      have e' : g' = g := Option.some.inj e
      omega
  · obtain ⟨q0, q1, q2, q3, q4, q5⟩ := h5 g hg
    exact h9.block g q0 q2 q4 (fun e => q5 e.symm)
end Go.Proofs.Ytclhfokflagopaa
