/-
  Walks: two rows in order that lie side by side, merged in place: the middle.
-/
import Derived.Test.YtmfpojminbkojaaSymW
namespace Go.Proofs.Ytmfpojminbkojaa
open Go.Shelf Go.RowKit Go.Lib Go.Sort
variable {P : Program} {α : Type} [Inhabited α] {k : Nat}

def MainPost (enc : α → List Value) (k : Nat) (w0 : World) (blk off : Nat) (cf : α → α → Int) (a b : Nat) (d : Array α) (w' : World) : Prop := ∃ d', PermIn a b d d' ∧ SortedIn (ltOf cf) a b d' ∧ SWK enc k w0 blk off d' w'

end Go.Proofs.Ytmfpojminbkojaa
namespace Go.Proofs.Ytmfpojminbkojaa
open Go.Shelf Go.RowKit Go.Lib Go.Sort
variable {P : Program} {α : Type} [Inhabited α] {k : Nat}


end Go.Proofs.Ytmfpojminbkojaa
