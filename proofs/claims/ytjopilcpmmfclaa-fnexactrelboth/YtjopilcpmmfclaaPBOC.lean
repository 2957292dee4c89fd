/-
  Closed facts of the row of FnExactRelBoth.
-/
import Derived.Test.YtjopilcpmmfclaaRows
import Derived.JoinedOf
namespace Go.Proofs.Ytjopilcpmmfclaa
theorem fnExactRelBoth_closed : joinedFacts Try.pinned.checked.prog 5 Try.f5 Rows.fnExactRelBothSpec Rows.fnExactRelBothRow = true := by kernel_rfl
end Go.Proofs.Ytjopilcpmmfclaa
