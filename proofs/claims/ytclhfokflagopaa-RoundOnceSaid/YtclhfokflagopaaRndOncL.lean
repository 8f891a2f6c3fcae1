/-
  RoundOnce, its cases joined. No condition.
-/
import Derived.Test.YtclhfokflagopaaRndOnc
namespace Go.Proofs.Ytclhfokflagopaa
open Go Go.RowKit Go.Maps

theorem roundonce_law (a b c : Int) (v : Value) (L : List InS) (w : World) (ha : wfi a ∧ wfi b ∧ wfi c) (hr : RdG w w.heap.size v L) : Calls Try.prog 8 #[.agg #[.int .i64 a, .int .i64 b, .int .i64 c], v] w fun e w' => e = .returned (.bool true) ∧ Below w.heap.size w w' := by
  obtain ⟨_, Aq, cq, rfl, _⟩ := id hr
  by_cases hc : CanR a b c
  · by_cases hm : L.length ≤ 100
    · obtain ⟨N, rfl⟩ : ∃ N : Nat, a = (N : Int) := ⟨a.toNat, by have := faults_some hc.1; omega⟩
      exact once_loop N b c ha.2.2 ha.2.1 _ _ _ L w hr rfl hc hm
    · exact once_long a b c ha.2.2 _ _ _ L w hr rfl hc (by omega)
  · exact once_bad a b c ha.2.2 _ _ _ L w hr rfl hc
end Go.Proofs.Ytclhfokflagopaa
