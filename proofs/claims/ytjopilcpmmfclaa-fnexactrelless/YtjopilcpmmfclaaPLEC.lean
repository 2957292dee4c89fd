/-
  Closed facts of the row of FnExactRelLess.
-/
import Derived.Test.YtjopilcpmmfclaaRows
import Derived.JoinedOf
namespace Go.Proofs.Ytjopilcpmmfclaa
theorem fnExactRelLess_closed : joinedFacts Try.pinned.checked.prog 4 Try.f4 Rows.fnExactRelLessSpec Rows.fnExactRelLessRow = true := by kernel_rfl
end Go.Proofs.Ytjopilcpmmfclaa
