/-
  Walks: the model's RelInsert, RelDelete; the program's RelDelete.
-/
import Derived.Test.YtgclmldhdjmabaaGreatDmlA
import Derived.Test.YtgclmldhdjmabaaGreatRelOfS
import Derived.Deep.RegionWith
namespace Go.Proofs.YtgclmldhdjmabaaGreat
open Go.Shelf Go.RowKit Go.Lib Go.Sort

theorem insert_held {zs : List RowV} {r : RowV} (h : holdsR zs r = true) : insertL zs r = (zs, false) := if_neg (by simp [h])
theorem insert_free {zs : List RowV} {r : RowV} (h1 : rowOk r = true) (h2 : holdsR zs r = false) : insertL zs r = fitsL (joinRows (putR zs r)) zs := if_pos ⟨h1, h2⟩

end Go.Proofs.YtgclmldhdjmabaaGreat
