/-
  Closed facts of the row of FnMerge.
-/
import Derived.Test.YtgclmldhdjmabaaRows
import Derived.JoinedOf
namespace Go.Proofs.Ytgclmldhdjmabaa
theorem fnMerge_closed : joinedFacts Try.pinned.checked.prog 7 Try.f7 Rows.fnMergeSpec Rows.fnMergeRow = true := by kernel_rfl
end Go.Proofs.Ytgclmldhdjmabaa
