/-
  Closed facts of the row of FnInsert.
-/
import Derived.Test.YtgclmldhdjmabaaRows
import Derived.JoinedOf
namespace Go.Proofs.Ytgclmldhdjmabaa
theorem fnInsert_closed : joinedFacts Try.pinned.checked.prog 8 Try.f8 Rows.fnInsertSpec Rows.fnInsertRow = true := by kernel_rfl
end Go.Proofs.Ytgclmldhdjmabaa
