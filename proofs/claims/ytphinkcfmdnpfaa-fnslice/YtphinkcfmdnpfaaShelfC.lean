/-
  Nothing of the clones is wanted at this program.
-/
import Derived.Shelf.LaySoft
import Derived.Shelf.Lay
import Derived.Shelf.SlGeneric
import Derived.Test.YtphinkcfmdnpfaaProg

