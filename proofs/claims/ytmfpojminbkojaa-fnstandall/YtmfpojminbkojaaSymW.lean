/-
  Walks: two rows in order that lie side by side, merged in place.
-/
import Derived.Test.YtmfpojminbkojaaStab
import Derived.Test.YtmfpojminbkojaaProg
import Derived.Shelf.SlSortCmp.KitK
import Derived.Shelf.SlSorted.Search
import Derived.Sort.WalkB2
import Derived.Sort.WalkB12
import Derived.Deep.LoopGhost
import Derived.Lib.Hide
namespace Go.Proofs.Ytmfpojminbkojaa
open Go.Shelf Go.RowKit Go.Lib Go.Sort
variable {P : Program} {α : Type} [Inhabited α] {k : Nat}

end Go.Proofs.Ytmfpojminbkojaa
namespace Go.Proofs.Ytmfpojminbkojaa
open Go.Shelf Go.RowKit Go.Lib Go.Sort
variable {P : Program} {α : Type} [Inhabited α] {k : Nat}

end Go.Proofs.Ytmfpojminbkojaa
