/-
  Closed facts of the row of FnExactRelPick.
-/
import Derived.Test.YtjopilcpmmfclaaRows
import Derived.JoinedOf
namespace Go.Proofs.Ytjopilcpmmfclaa
theorem fnExactRelPick_closed : joinedFacts Try.pinned.checked.prog 7 Try.f7 Rows.fnExactRelPickSpec Rows.fnExactRelPickRow = true := by kernel_rfl
end Go.Proofs.Ytjopilcpmmfclaa
