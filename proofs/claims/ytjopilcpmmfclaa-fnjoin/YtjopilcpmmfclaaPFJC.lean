/-
  Closed facts of the row of FnJoin.
-/
import Derived.Test.YtjopilcpmmfclaaRows
import Derived.JoinedOf
namespace Go.Proofs.Ytjopilcpmmfclaa
theorem fnJoin_closed : joinedFacts Try.pinned.checked.prog 14 Try.f14 Rows.fnJoinSpec Rows.fnJoinRow = true := by kernel_rfl
end Go.Proofs.Ytjopilcpmmfclaa
