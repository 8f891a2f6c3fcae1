/-
  Layer 10: the law JournalAgain. In whatever memory in which the tables lie. No condition.
-/
import Derived.Test.YtbmogeafhmejbaaDoorJrnLawB
namespace Go.Proofs.YtbmogeafhmejbaaDoor
open Go Go.RowKit Go.Shelf

theorem recs_le {ps : List (List UInt8)} (h : ∀ d ∈ ps, d.length ≤ 300) : (recsT zeroD ps).length ≤ 335 * ps.length := by
  rw [recsT_length]
  have := flat_le h
  omega
end Go.Proofs.YtbmogeafhmejbaaDoor
