/-
  Layer 10: the law JournalWhole. In whatever memory in which the tables lie. No condition.
-/
import Derived.Test.YtbmogeafhmejbaaDoorJrnMathW
namespace Go.Proofs.YtbmogeafhmejbaaDoor
open Go Go.RowKit Go.Shelf

/-- What is done to the slab alone. -/
theorem js_left {w : World} {T : Nat → Prop} {g gd : Nat} {s : JrnS} {sd sd' : SlabS} {f : FuncId} {args : Array Value} {r : Ending} (h : JS w T g gd s sd) (hc : ∀ Z, SlabAt w Z gd sd → Calls Tryd.prog f args w fun e w' => e = r ∧ Left Z gd sd' w w') :
    Calls Tryd.prog f args w fun e w' => e = r ∧ JOut T g gd s sd' w w' := by
  have h' := h
  obtain ⟨Y, Z, h1, h2, h3, h4, h5, h6⟩ := h
  refine (hc Z h2).mono ?_
  rintro e w' ⟨he, hl⟩
  exact ⟨he, JOut.of h' h4 h5 (bleft_lay h1 h3 (Below.refl _ _) hl)⟩
theorem js_new {w : World} {T : Nat → Prop} {gd : Nat} {sd : SlabS} {g : Nat} {s : JrnS} (h : JS w T g gd s sd) : ∃ Y Z, JrnAt w Y g gd s ∧ SlabAt w Z gd sd ∧ (∀ i, Y i → ¬ Z i) ∧ (∀ i, Y i → T i) ∧ (∀ i, Z i → T i) := by
  obtain ⟨Y, Z, h1, h2, h3, h4, h5, h6⟩ := h
  exact ⟨Y, Z, h1, h2, h3, h4, h5⟩
end Go.Proofs.YtbmogeafhmejbaaDoor
