/-
  Closed facts of the row of FnLess.
-/
import Derived.Test.YtjopilcpmmfclaaRows
import Derived.JoinedOf
namespace Go.Proofs.Ytjopilcpmmfclaa
theorem fnLess_closed : joinedFacts Try.pinned.checked.prog 11 Try.f11 Rows.fnLessSpec Rows.fnLessRow = true := by kernel_rfl
end Go.Proofs.Ytjopilcpmmfclaa
