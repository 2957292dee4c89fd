/-
  Walks: all that holds at a point, as the model has it.
-/
import Derived.Test.YtacddgipcafdlaaRelAt
import Derived.Deep.RegionHeld3
import Derived.Deep.AppendLies
namespace Go.Proofs.Ytacddgipcafdlaa
open Go.RowKit

end Go.Proofs.Ytacddgipcafdlaa
