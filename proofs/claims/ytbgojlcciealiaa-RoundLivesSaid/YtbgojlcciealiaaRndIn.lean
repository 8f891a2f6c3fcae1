/-
  What comes to somebody, in memory; rows of it. No condition.
-/
import Derived.Test.YtbgojlcciealiaaQBits
namespace Go.Proofs.Ytbgojlcciealiaa
open Go Go.RowKit Go.Maps

/-- What comes. -/
structure InS where
  kind : Int
  round : Int
  num : Int
  who : Int
  valid : Int
  id : List UInt8
section
variable {ops : Array Oper} {rest : List Oper} {o : Oper} {a : Act} {w : World} {Q : Exit → Act → World → Prop}
end
end Go.Proofs.Ytbgojlcciealiaa
