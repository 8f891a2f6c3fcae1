/-
  The reference's parts: for every message that can be written, in whatever memory: nine strings in new memory, the fields' bytes.
-/
import Derived.Test.YtjdgcciemlfapaaPackRefCheck
import Derived.Test.YtjdgcciemlfapaaPackStr
import Derived.Test.YtjdgcciemlfapaaPackID
import Derived.Test.YtjdgcciemlfapaaRd
import Derived.Test.YtjdgcciemlfapaaPackKit
import Derived.Deep.DeepMust
import Derived.Deep.RegionHeld3
import Derived.Deep.RegionWith
namespace Go.Proofs.Ytjdgcciemlfapaa
open Go Go.RowKit PackMath

theorem Kp.alloc {W w : World} (h : Below W.heap.size W w) (o : Obj) : Below W.heap.size W (w.alloc o) := Below.alloc h h.size o
theorem Kp.call {W w w' : World} (h : Below W.heap.size W w) (h2 : Below w.heap.size w w') : Below W.heap.size W w' := h.trans (h2.mono h.size)
section
variable {P : Program}
end
end Go.Proofs.Ytjdgcciemlfapaa
