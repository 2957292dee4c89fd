/-
  Walks: slices of rows: sizes, copies, equality, marks.
-/
import Derived.Test.YtkalanjgjeijbaaRowW
import Derived.Test.YtkalanjgjeijbaaRowT
namespace Go.Proofs.Ytkalanjgjeijbaa
open Go.RowKit

def SzPost (left : Int) (n : Nat) (w : World) (e : Ending) (w' : World) : Prop :=
  ∃ v : Int, e = .returned (.int .i64 v) ∧ (v = -1 ∨ (0 ≤ v ∧ v ≤ left ∧ (n : Int) ≤ left)) ∧ Below w.heap.size w w'

theorem Try.infoR57 : (Try.prog.info? 57).map (fun i => (i.zero, i.size, i.bytes)) = some (some (.agg #[.string ⟨#[]⟩, .string ⟨#[]⟩, .int .i64 0, .int .i64 0]), 4, 48) := by kernel_rfl

end Go.Proofs.Ytkalanjgjeijbaa
