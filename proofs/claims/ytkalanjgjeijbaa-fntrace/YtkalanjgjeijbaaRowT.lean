/-
  Walk: a row copied by value.
-/
import Derived.Test.YtkalanjgjeijbaaRowD
import Derived.Test.YtkalanjgjeijbaaMeet
import Derived.Deep.RegionWith
import Derived.Deep.QuietTactic
import Derived.BigQuiet
namespace Go.Proofs.Ytkalanjgjeijbaa
open Go.RowKit

end Go.Proofs.Ytkalanjgjeijbaa
