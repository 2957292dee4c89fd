/-
  Closed facts of the row of FnRelAt.
-/
import Derived.Test.YtgclmldhdjmabaaRows
import Derived.JoinedOf
namespace Go.Proofs.Ytgclmldhdjmabaa
theorem fnRelAt_closed : joinedFacts Try.pinned.checked.prog 3 Try.f3 Rows.fnRelAtSpec Rows.fnRelAtRow = true := by kernel_rfl
end Go.Proofs.Ytgclmldhdjmabaa
