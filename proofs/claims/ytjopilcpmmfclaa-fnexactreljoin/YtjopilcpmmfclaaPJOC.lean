/-
  Closed facts of the row of FnExactRelJoin.
-/
import Derived.Test.YtjopilcpmmfclaaRows
import Derived.JoinedOf
namespace Go.Proofs.Ytjopilcpmmfclaa
theorem fnExactRelJoin_closed : joinedFacts Try.pinned.checked.prog 3 Try.f3 Rows.fnExactRelJoinSpec Rows.fnExactRelJoinRow = true := by kernel_rfl
end Go.Proofs.Ytjopilcpmmfclaa
