/-
  RoundAgree, walked. No condition.
-/
import Derived.Test.YtbgojlcciealiaaRndCome
import Derived.Test.YtbgojlcciealiaaRndOpen
import Derived.Test.YtbgojlcciealiaaQBits
namespace Go.Proofs.Ytbgojlcciealiaa
open Go Go.RowKit Go.Maps

theorem take_at {b : Nat} {W : World} {H : Nat} {h : HM} {Hb : Nat} (k : HallM b W H h) (hb : h.Hb = Hb) (hw : b ≤ W.heap.size) (i : Nat) (hi : i < H) (hH : H ≤ 7) (bq : Nat) (v : Value) (lg : List ActS) (ho : OwnA bq W v lg) : Calls Try.prog 38 #[.pointer (some ⟨Hb, 0, none⟩), .int .i64 (i : Int), v] W fun e w' => (∃ u, e = .returned u) ∧ Below b W w' ∧ ∃ vm', HallM b w' H { h with vm := vm', ms := lg.foldl (takeM1 H i) h.ms, ds := lg.foldl (takeD1 i) h.ds } ∧ Oth W w' h vm' := by
  subst hb
  exact take_any k hw i hi hH bq v lg ho
end Go.Proofs.Ytbgojlcciealiaa
