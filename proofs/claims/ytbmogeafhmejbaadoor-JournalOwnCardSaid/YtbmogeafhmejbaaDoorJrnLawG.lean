/-
  Layer 10: the law JournalAgain. In whatever memory in which the tables lie. No condition.
-/
import Derived.Test.YtbmogeafhmejbaaDoorJrnLawB
namespace Go.Proofs.YtbmogeafhmejbaaDoor
open Go Go.RowKit Go.Shelf

/-- A slab in blocks that S bears. -/
def SS (w : World) (S : Nat → Prop) (gd : Nat) (sd : SlabS) : Prop := ∃ Z, SlabAt w Z gd sd ∧ (∀ i, Z i → S i) ∧ ∀ i, S i → i < w.heap.size
theorem ss_open {w : World} {S : Nat → Prop} {gd : Nat} {l : List (List UInt8)} {n sure : Nat} (hT : Tables w) (h : SS w S gd (sL n l sure)) (hl : ∀ d ∈ l, d.length ≤ 300) :
    Calls Tryd.prog 13 #[.pointer (some ⟨gd, 0, none⟩)] w fun e w' => ∃ g S', e = .returned (.tuple #[.pointer (some ⟨g, 0, none⟩), .int .i64 0]) ∧ JS w' S' g gd (jL l) (sL n l sure) ∧ Turn S w w' ∧ ∀ i, S' i → S i ∨ w.heap.size ≤ i := by
  obtain ⟨Z, h1, h2, h3⟩ := h
  refine (js_open hT h1 (openJ_all n l sure (-1) (fun d hd => by have := hl d hd; omega))).mono ?_
  rintro e w' ⟨g, S', he, q1, q2, q3⟩
  exact ⟨g, S', he, q1, q2.mono fun i _ hi => h2 i hi, fun i hi => (q3 i hi).imp (h2 i) id⟩
theorem new_50000 (w : World) : Calls Tryd.prog 11 #[.int .i64 50000] w fun e w' => e = .returned (.tuple #[.pointer (some ⟨w.heap.size, 0, none⟩), .int .i64 0]) ∧ SS w' (fun i => i = w.heap.size) w.heap.size (sL 50000 [] 0) ∧ Below w.heap.size w w' := by
  have h := slabNew_any 50000 (by omega) w
  rw [Int.cast_ofNat_Int] at h
  refine h.mono ?_
  rintro e w' ⟨he, h1, h2⟩
  exact ⟨he, ⟨_, h1, fun i hi => hi, by obtain ⟨_, _, _, _, _, q, _⟩ := h1; exact q⟩, h2⟩
theorem recs_le {ps : List (List UInt8)} (h : ∀ d ∈ ps, d.length ≤ 300) : (recsT zeroD ps).length ≤ 335 * ps.length := by
  rw [recsT_length]
  have := flat_le h
  omega
theorem turn_setRow (w : World) (g : Nat) (cs : Array Value) : Turn (fun i => i = g) w (w.setRow g cs) := ⟨rfl, rfl, rfl, by rw [size_setRow]; exact Nat.le_refl _, fun i _ hn => setRow_other w g i cs hn⟩
end Go.Proofs.YtbmogeafhmejbaaDoor
