/-
  Nothing of the library's is laid here.
-/
import Derived.Shelf.SlGeneric
import Derived.Shelf.SlicesE.Clone
import Derived.Shelf.SlicesE.Compact
import Derived.Ground.SlsfProg
import Derived.Ground.SlgcProg
import Derived.Ground.SlgnProg
import Derived.Test.YtkalanjgjeijbaaProg
namespace Go.Proofs.Ytkalanjgjeijbaa
end Go.Proofs.Ytkalanjgjeijbaa
