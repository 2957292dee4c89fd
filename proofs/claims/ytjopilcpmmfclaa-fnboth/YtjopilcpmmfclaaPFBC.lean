/-
  Closed facts of the row of FnBoth.
-/
import Derived.Test.YtjopilcpmmfclaaRows
import Derived.JoinedOf
namespace Go.Proofs.Ytjopilcpmmfclaa
theorem fnBoth_closed : joinedFacts Try.pinned.checked.prog 12 Try.f12 Rows.fnBothSpec Rows.fnBothRow = true := by kernel_rfl
end Go.Proofs.Ytjopilcpmmfclaa
