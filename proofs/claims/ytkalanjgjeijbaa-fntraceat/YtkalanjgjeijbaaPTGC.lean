/-
  Closed facts of the row of FnTraceAt.
-/
import Derived.Test.YtkalanjgjeijbaaRows
import Derived.JoinedOf
namespace Go.Proofs.Ytkalanjgjeijbaa
theorem fnTraceAt_closed : joinedFacts Try.pinned.checked.prog 5 Try.f5 Rows.fnTraceAtSpec Rows.fnTraceAtRow = true := by kernel_rfl
end Go.Proofs.Ytkalanjgjeijbaa
