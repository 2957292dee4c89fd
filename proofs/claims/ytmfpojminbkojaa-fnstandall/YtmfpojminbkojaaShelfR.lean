/-
  Nothing of the library's sorts is called at this program: imports alone.
-/
import Derived.Shelf.SlGeneric
import Derived.Shelf.SlSortCmp.InsertionK
import Derived.Shelf.SlicesG.Cmp
import Derived.Shelf.SlicesE.Clone
import Derived.Ground.SlsfProg
import Derived.Ground.SlgcProg
import Derived.Ground.SlgnProg
import Derived.Test.YtmfpojminbkojaaProg
namespace Go.Proofs.Ytmfpojminbkojaa
end Go.Proofs.Ytmfpojminbkojaa
