/-
  Closed facts of the row of FnTrace.
-/
import Derived.Test.YtkalanjgjeijbaaRows
import Derived.JoinedOf
namespace Go.Proofs.Ytkalanjgjeijbaa
theorem fnTrace_closed : joinedFacts Try.pinned.checked.prog 4 Try.f4 Rows.fnTraceSpec Rows.fnTraceRow = true := by kernel_rfl
end Go.Proofs.Ytkalanjgjeijbaa
