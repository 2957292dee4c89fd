/-
  Closed facts of the row of FnDelete.
-/
import Derived.Test.YtgclmldhdjmabaaRows
import Derived.JoinedOf
namespace Go.Proofs.Ytgclmldhdjmabaa
theorem fnDelete_closed : joinedFacts Try.pinned.checked.prog 6 Try.f6 Rows.fnDeleteSpec Rows.fnDeleteRow = true := by kernel_rfl
end Go.Proofs.Ytgclmldhdjmabaa
