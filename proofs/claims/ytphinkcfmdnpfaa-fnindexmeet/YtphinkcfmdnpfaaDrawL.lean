/-
  Walks: a drawn table and what is asked of it.
-/
import Derived.Test.YtphinkcfmdnpfaaDrawT
import Derived.Test.YtphinkcfmdnpfaaRelG
namespace Go.Proofs.Ytphinkcfmdnpfaa
open Go.Shelf Go.RowKit Go.Lib Go.Sort

/-- A drawn table, a key and a point. -/
def DrawnRG (w : World) (e : Ending) (w' : World) : Prop :=
  ∃ (zs : List RowV) (A : Option Addr) (cap : Nat) (key : ByteArray) (c : Int), e = .returned (.tuple #[.slice A zs.length cap, .string key, .int .i64 c]) ∧ zs.length ≤ 25 ∧ Short zs ∧ key.size ≤ 20 ∧ w'.ownsRow w.heap.size 70 4 (.slice A zs.length cap) zs.length (flatOf rowC zs) ∧ Below w.heap.size w w'

end Go.Proofs.Ytphinkcfmdnpfaa
