/-
  Layer 10: a journal with its slab, in blocks of a law's own. No condition.
-/
import Derived.Test.YtgpbpdjamimbfaaDoorJrnGuard
namespace Go.Proofs.YtgpbpdjamimbfaaDoor
open Go Go.RowKit Go.Shelf

/-- A journal in block g on the slab in block gd; S: blocks that bear all that is theirs. -/
def JS (w : World) (S : Nat → Prop) (g gd : Nat) (s : JrnS) (sd : SlabS) : Prop :=
  ∃ Y Z, JrnAt w Y g gd s ∧ SlabAt w Z gd sd ∧ (∀ i, Y i → ¬ Z i) ∧ (∀ i, Y i → S i) ∧ (∀ i, Z i → S i) ∧ ∀ i, S i → i < w.heap.size
section
variable {w w' : World} {S T : Nat → Prop} {g gd : Nat} {s : JrnS} {sd : SlabS}
theorem JS.turn (h : JS w S g gd s sd) (ht : Turn T w w') (hs : ∀ i, S i → ¬ T i) : JS w' S g gd s sd := by
  obtain ⟨Y, Z, h1, h2, h3, h4, h5, h6⟩ := h
  exact ⟨Y, Z, h1.turn ht (fun i hi => hs i (h4 i hi)), h2.turn ht (fun i hi => hs i (h5 i hi)), h3, h4, h5, fun i hi => Nat.lt_of_lt_of_le (h6 i hi) ht.size⟩
theorem JS.lt (h : JS w S g gd s sd) : ∀ i, S i → i < w.heap.size := by
  obtain ⟨Y, Z, h1, h2, h3, h4, h5, h6⟩ := h
  exact h6
theorem JS.below (h : JS w S g gd s sd) (hb : Below w.heap.size w w') : JS w' S g gd s sd := h.turn (Turn.of_below hb) (fun i hi => by have := h.lt i hi; omega)
/-- What a call leaves. -/
def JOut (S : Nat → Prop) (g gd : Nat) (s : JrnS) (sd : SlabS) (w w' : World) : Prop := ∃ S', JS w' S' g gd s sd ∧ Turn S w w' ∧ ∀ i, S' i → S i ∨ w.heap.size ≤ i
theorem JOut.of {s' : JrnS} {sd' : SlabS} {Y Z : Nat → Prop} (_h : JS w S g gd s sd) (hY : ∀ i, Y i → S i) (hZ : ∀ i, Z i → S i) (hl : BLeft Y Z g gd s' sd' w w') : JOut S g gd s' sd' w w' := by
  obtain ⟨Y', Z', k1, k2, k3, k4, k5, k6⟩ := hl
  have hz : ∀ i, Z' i → i < w'.heap.size := by obtain ⟨_, _, _, _, _, q, _⟩ := k2; exact q
  refine ⟨fun i => Y' i ∨ Z' i, ⟨Y', Z', k1, k2, k3, fun i hi => .inl hi, fun i hi => .inr hi, fun i hi => ?_⟩, k4.mono fun i _ hi => ?_, fun i hi => ?_⟩
  · rcases hi with hi | hi
    · exact k1.blocks i hi
    · exact hz i hi
  · rcases hi with hi | hi
    · exact hY i hi
    · exact hZ i hi
  · rcases hi with hi | hi
    · exact (k5 i hi).imp (hY i) id
    · exact (k6 i hi).imp (hZ i) id
theorem js_write (A : Option Addr) (n c : Nat) (d : List UInt8) (hT : Tables w) (h : JS w S g gd s sd) (hn : s.recs.length < 100000000) (hr : RdB w (fun i => i < w.heap.size ∧ ¬ S i) (.slice A n c) d) :
    Calls Tryd.prog 16 #[.pointer (some ⟨g, 0, none⟩), .slice A n c] w fun e w' => e = .returned (.int .i64 (writeJ s sd d).2.2) ∧ JOut S g gd (writeJ s sd d).1 (writeJ s sd d).2.1 w w' := by
  have h' := h
  obtain ⟨Y, Z, h1, h2, h3, h4, h5, h6⟩ := h
  refine (write_any Y Z g gd s sd A n c d w hT h1 h2 h3 hn (hr.mono fun i hi => ⟨hi.1, fun hz => hi.2 (h5 i hz)⟩)).mono ?_
  rintro e w' ⟨he, hl⟩
  exact ⟨he, JOut.of h' h4 h5 hl⟩
theorem js_len (h : JS w S g gd s sd) : Calls Tryd.prog 24 #[.pointer (some ⟨g, 0, none⟩)] w fun e w' => e = .returned (.int .i64 (s.recs.length : Int)) ∧ w' = w := by
  obtain ⟨Y, Z, h1, h2, h3, h4, h5, h6⟩ := h
  exact len_any Y g gd s w h1
theorem js_last (h : JS w S g gd s sd) : Calls Tryd.prog 25 #[.pointer (some ⟨g, 0, none⟩)] w fun e w' => e = .returned (.agg (arr 32 fun i => bv (s.last i))) ∧ Below w.heap.size w w' := by
  obtain ⟨Y, Z, h1, h2, h3, h4, h5, h6⟩ := h
  exact last_any Y g gd s w h1
/-- A new journal on a slab. -/
theorem js_open {Z : Nat → Prop} {sd' : SlabS} (hT : Tables w) (hd : SlabAt w Z gd sd) (ho : openJ sd = (some s, sd', 0)) :
    Calls Tryd.prog 13 #[.pointer (some ⟨gd, 0, none⟩)] w fun e w' => ∃ g S', e = .returned (.tuple #[.pointer (some ⟨g, 0, none⟩), .int .i64 0]) ∧ JS w' S' g gd s sd' ∧ Turn Z w w' ∧ ∀ i, S' i → Z i ∨ w.heap.size ≤ i := by
  refine (open_some hT hd ho).mono ?_
  rintro e w' ⟨g, Y, Z', rfl, h1, h2, h3, h4, h5, h6⟩
  have hz : ∀ i, Z' i → i < w'.heap.size := by obtain ⟨_, _, _, _, _, q, _⟩ := h2; exact q
  refine ⟨g, fun i => Y i ∨ Z' i, rfl, ⟨Y, Z', h1, h2, h3, fun i hi => .inl hi, fun i hi => .inr hi, fun i hi => ?_⟩, h4, fun i hi => ?_⟩
  · rcases hi with hi | hi
    · exact h1.blocks i hi
    · exact hz i hi
  · rcases hi with hi | hi
    · exact .inr (h5 i hi)
    · exact h6 i hi
end
end Go.Proofs.YtgpbpdjamimbfaaDoor
