/-
  Closed facts of the row of FnExactRelCount.
-/
import Derived.Test.YtjopilcpmmfclaaRows
import Derived.JoinedOf
namespace Go.Proofs.Ytjopilcpmmfclaa
theorem fnExactRelCount_closed : joinedFacts Try.pinned.checked.prog 8 Try.f8 Rows.fnExactRelCountSpec Rows.fnExactRelCountRow = true := by kernel_rfl
end Go.Proofs.Ytjopilcpmmfclaa
