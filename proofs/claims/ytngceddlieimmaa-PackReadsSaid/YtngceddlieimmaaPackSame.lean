/-
  The reference's Same: of any two messages, wherever they lie: whether they are alike.
-/
import Derived.Test.YtngceddlieimmaaPackSameA
import Derived.Test.YtngceddlieimmaaPackSameB
import Derived.Test.YtngceddlieimmaaPackSameC
namespace Go.Proofs.Ytngceddlieimmaa
open Go Go.RowKit PackMath

open Classical in
theorem same_any (r r' : Raw) (d i l d' i' l' : Value) (w : World) (hr : RdR w (fun b => b < w.heap.size) r d i l) (hr' : RdR w (fun b => b < w.heap.size) r' d' i' l') :
    Calls Try.prog 15 #[.agg (msgA r d i l), .agg (msgA r' d' i' l')] w fun e w' => e = .returned (.bool (decide (r.Like r'))) ∧ Below w.heap.size w w' := by
  have no : ∀ {Q : Ending → World → Prop}, ¬ r.Like r' → Calls Try.prog 15 #[.agg (msgA r d i l), .agg (msgA r' d' i' l')] w (fun e w' => e = .returned (.bool false) ∧ Below w.heap.size w w') →
      Calls Try.prog 15 #[.agg (msgA r d i l), .agg (msgA r' d' i' l')] w fun e w' => e = .returned (.bool (decide (r.Like r'))) ∧ Below w.heap.size w w' := fun h hc => by
    rw [decide_eq_false h]
    exact hc
  by_cases h0 : r.kind = r'.kind
  case neg => exact no (Q := fun _ _ => True) (fun h => h0 h.kind) (same_no0 r r' d i l d' i' l' w hr hr' h0)
  by_cases h1 : r.who = r'.who
  case neg => exact no (Q := fun _ _ => True) (fun h => h1 h.who) (same_no1 r r' d i l d' i' l' w hr hr' h0 h1)
  by_cases h2 : r.height = r'.height
  case neg => exact no (Q := fun _ _ => True) (fun h => h2 h.height) (same_no2 r r' d i l d' i' l' w hr hr' h0 h1 h2)
  by_cases h3 : r.round = r'.round
  case neg => exact no (Q := fun _ _ => True) (fun h => h3 h.round) (same_no3 r r' d i l d' i' l' w hr hr' h0 h1 h2 h3)
  by_cases h4 : r.valid = r'.valid
  case neg => exact no (Q := fun _ _ => True) (fun h => h4 h.valid) (same_no4 r r' d i l d' i' l' w hr hr' h0 h1 h2 h3 h4)
  by_cases h5 : r.num = r'.num
  case neg => exact no (Q := fun _ _ => True) (fun h => h5 h.num) (same_no5 r r' d i l d' i' l' w hr hr' h0 h1 h2 h3 h4 h5)
  by_cases h6 : id32 r.id = id32 r'.id
  case neg => exact no (Q := fun _ _ => True) (fun h => h6 h.id) (same_no6 r r' d i l d' i' l' w hr hr' h0 h1 h2 h3 h4 h5 h6)
  by_cases h7 : r.data = r'.data
  case neg => exact no (Q := fun _ _ => True) (fun h => h7 h.data) (same_no7 r r' d i l d' i' l' w hr hr' h0 h1 h2 h3 h4 h5 h6 h7)
  by_cases h8 : r.ids.length = r'.ids.length
  case neg => exact no (Q := fun _ _ => True) (fun h => h8 (by have := congrArg List.length h.ids; simpa using this)) (same_no8 r r' d i l d' i' l' w hr hr' h0 h1 h2 h3 h4 h5 h6 h7 h8)
  by_cases h9 : r.list.length = r'.list.length
  case neg => exact no (Q := fun _ _ => True) (fun h => h9 (by rw [h.list])) (same_no9 r r' d i l d' i' l' w hr hr' h0 h1 h2 h3 h4 h5 h6 h7 h8 h9)
  have := same_on r r' d i l d' i' l' w hr hr' h0 h1 h2 h3 h4 h5 h6 h7 h8 h9
  have e : decide (r.ids.map id32 = r'.ids.map id32 ∧ r.list = r'.list) = decide (r.Like r') := by
    rw [decide_eq_decide]
    exact ⟨fun h => ⟨h0, h1, h2, h3, h4, h5, h6, h7, h.1, h.2⟩, fun h => ⟨h.ids, h.list⟩⟩
  rw [e] at this
  exact this

end Go.Proofs.Ytngceddlieimmaa
